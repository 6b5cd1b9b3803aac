/- Proved: a number has one form, and is told within its bounds alone (PackForms), for every number, all bounds, one to three noughts more, the package's table being as the program's text lays it. -/
import Derived.Test.YtfdgjdakaibifaaDoorPkL
import Derived.Test.YtfdgjdakaibifaaDoorCards
import Derived.Test.YtfdgjdakaibifaaDoorTie
namespace Go.Proofs.YtfdgjdakaibifaaDoor.packForms
open Go.ChangeShapes Go.WideShapes Go.ChangeAt Go.RowKit
open Go.ChangeMaps (open_string shut_string)
open Go.Proofs.YtfdgjdakaibifaaDoor.Pk

/-! The plain lists: bytes that all go on, and a nought behind them, are no number. -/
theorem dec_long (l : List UInt8) : ∀ i u, i ≤ 9 → 0 < i + l.length → (∀ c ∈ l, 128 ≤ c.toNat) → dec i u (l ++ [0]) = none := by
  induction l with
  | nil =>
    intro i u hi hl _
    simp only [List.nil_append, dec]
    have h0 : 0 < i := by simpa using hl
    rw [if_neg (by simp), if_pos (by simp), if_neg (by rintro (h | h); omega; exact h rfl)]
  | cons c t ih =>
    intro i u hi _ hc
    have h1 := hc c (by simp)
    rw [List.cons_append, dec]
    by_cases h9 : i = 9
    · rw [if_pos ⟨h9, by omega⟩]
    · rw [if_neg (fun h => h9 h.1), if_neg (by omega)]
      exact ih (i + 1) _ (by omega) (by omega) (fun x hx => hc x (by simp [hx]))
/-- All but the last byte of a number go on. -/
theorem enc_go (n : Nat) : ∀ (i : Nat) (c : UInt8), (enc n)[i]? = some c → i + 1 < (enc n).length → 128 ≤ c.toNat := by
  induction n using Nat.strongRecOn with
  | ind n ih =>
    intro i c hi hl
    by_cases h : n < 128
    · rw [enc_lo h] at hl; simp at hl
    · rw [enc_hi (by omega)] at hi hl
      cases i with
      | zero =>
        simp only [List.getElem?_cons_zero, Option.some.injEq] at hi
        subst hi
        rw [ofNat_toNat (by omega)]; omega
      | succ i =>
        rw [List.getElem?_cons_succ] at hi
        rw [List.length_cons] at hl
        exact ih (n / 128) (by omega) i c hi (by omega)
/-- The last byte with 128 more: all go on. -/
theorem set_go (n : Nat) (x : UInt8) (hx : 128 ≤ x.toNat) (k : Nat) (hk : (enc n).length = k + 1) : ∀ c ∈ (enc n).set k x, 128 ≤ c.toNat := by
  intro c hc
  obtain ⟨i, hi⟩ := List.getElem?_of_mem hc
  rw [List.getElem?_set] at hi
  split at hi
  · split at hi
    · simp only [Option.some.injEq] at hi; subst hi; exact hx
    · cases hi
  · have hl := (List.getElem?_eq_some_iff.1 hi).1
    exact enc_go n i c hi (by omega)

theorem rInt_ok {v lo hi : Int} (h1 : -9223372036854775808 ≤ v) (h2 : v ≤ 9223372036854775807) (h : lo ≤ v ∧ v ≤ hi) : rInt lo hi (some (encI v)) = (v, some []) := by
  have d := dec_encI v h1 h2 []
  rw [List.append_nil] at d
  simp only [rInt, d, uz_zz]
  rw [if_pos h]
theorem rInt_far {v lo hi : Int} (h1 : -9223372036854775808 ≤ v) (h2 : v ≤ 9223372036854775807) (h : ¬ (lo ≤ v ∧ v ≤ hi)) : rInt lo hi (some (encI v)) = (0, none) := by
  have d := dec_encI v h1 h2 []
  rw [List.append_nil] at d
  simp only [rInt, d, uz_zz]
  rw [if_neg h]
theorem rInt_long {l : List UInt8} {lo hi : Int} (hl : 0 < l.length) (hc : ∀ c ∈ l, 128 ≤ c.toNat) : rInt lo hi (some (l ++ [0])) = (0, none) := by
  simp only [rInt, dec_long l 0 0 (by omega) (by omega) hc]

theorem own_some {w : World} {base n : Nat} {e : TypeId} {v : Value} {xs : List Value} (h : w.ownsRow base e 1 v n xs) (hn : 0 < n) : ∃ g c, v = .slice (some ⟨g, 0, none⟩) n c ∧ base ≤ g ∧ g < w.heap.size ∧ n ≤ c ∧ c ≤ maxLen := by
  rcases h.2 with ⟨_, h0⟩ | ⟨g, cap, cur, e, hb, hh, h1, h2, _⟩
  · omega
  · exact ⟨g, cap, e, hb, lt_some hh, h1, h2⟩
theorem or_y (x : UInt8) : ∃ y : UInt8, 128 ≤ y.toNat ∧ bits .or .u8 (x.toNat : Int) 128 = (y.toNat : Int) := by
  refine ⟨UInt8.ofNat (x.toNat % 128 + 128), by rw [ofNat_toNat (by omega)]; omega, ?_⟩
  have h := byte_hi x.toNat
  have e : (x.toNat : Int) % 256 = (x.toNat : Int) := by have := x.toNat_lt; omega
  rwa [e] at h
theorem u8s_set (bs : List UInt8) (k : Nat) (y : UInt8) : (u8s bs).set k (.int .u8 (y.toNat : Int)) = u8s (bs.set k y) := by simp [u8s, List.map_set]

theorem copied_last {w : World} {base L : Nat} {v : Value} {bs : List UInt8} (h : w.ownsRow base 5 1 v L (u8s bs)) (hL : 0 < L) :
    ∃ (g c : Nat) (x y : UInt8), v = .slice (some ⟨g, 0, none⟩) L c ∧ base ≤ g ∧ g < w.heap.size ∧ L ≤ c ∧ c ≤ 9223372036854775807 ∧ w.cell? ⟨g, L - 1, none⟩ = some (.int .u8 (x.toNat : Int)) ∧ w.frozen? ⟨g, L - 1, none⟩ = false ∧
      bits .or .u8 (x.toNat : Int) 128 = (y.toNat : Int) ∧ x.toNat < 256 ∧ 128 ≤ y.toNat ∧ (w.setCell ⟨g, L - 1, none⟩ (.int .u8 (y.toNat : Int))).ownsRow base 5 1 (.slice (some ⟨g, 0, none⟩) L c) L (u8s (bs.set (L - 1) y)) := by
  obtain ⟨g, c, rfl, hg, hgl, hc1, hc2⟩ := own_some h hL
  have hl := h.1
  rw [u8s_len] at hl
  obtain ⟨x, hx⟩ : ∃ x, bs[L - 1]? = some x := ⟨_, List.getElem?_eq_getElem (by omega)⟩
  obtain ⟨y, hy, hor⟩ := or_y x
  unfold maxLen at hc2
  refine ⟨g, c, x, y, rfl, hg, hgl, hc1, by omega, ?_, h.frozenAt (L - 1), hor, x.toNat_lt, hy, ?_⟩
  · rw [h.cellAt (L - 1) (by omega), u8s, List.getElem?_map, hx]
    rfl
  · rw [← u8s_set]
    exact (h.stored (L - 1) _).1

theorem copied_below {w w' : World} (hg : (w.alloc (.cells #[] 5)).grownBy w' (Value.slice (some ⟨w.heap.size, 0, none⟩) 0 0).ownBlock) : Below w.heap.size w w' :=
  ((Below.refl _ w).alloc (Nat.le_refl _) _).grown hg (by simp) (fun k hk => by simp [Value.ownBlock] at hk; omega)

/-- The loop that puts more bytes that go on. -/
def FAt (w : World) (B : Nat) (v i : Value) (wr : World) : Prop :=
  ∃ (k n : Nat) (bs : List UInt8), i = .int .i64 k ∧ k ≤ 3 ∧ wr.ownsRow B 5 1 v n (u8s bs) ∧ 0 < n ∧ n ≤ 10 + k ∧ (∀ c ∈ bs, 128 ≤ c.toNat) ∧ Below B w wr

theorem f_next {w wr w6 : World} {k n g c : Nat} {bs : List UInt8} {v6 : Value} (hM : k + 1 ≤ 3) (hn0 : 0 < n) (hn : n ≤ 10 + k) (hc : ∀ c ∈ bs, 128 ≤ c.toNat)
    (hb : Below w.heap.size w wr) (hg : w.heap.size ≤ g) (h6 : w6.ownsRow w.heap.size 5 1 v6 (n + 1) (u8s (bs ++ [128]))) (hg6 : (wr.alloc (.cells #[.int .u8 128] 5)).grownBy w6 (Value.slice (some ⟨g, 0, none⟩) n c).ownBlock) :
    FAt w w.heap.size v6 (.int .i64 ((k : Int) + 1)) w6 :=
  ⟨k + 1, n + 1, bs ++ [128], rfl, hM, h6, by omega, by omega, fun x hx => by
    rcases List.mem_append.1 hx with h | h
    · exact hc x h
    · rw [List.mem_singleton.1 h]; decide, (hb.alloc hb.size _).grown hg6 (by simp; exact Nat.le_trans hb.size (Nat.le_succ _)) (fun i hi => by simp [Value.ownBlock] at hi; omega)⟩
theorem f_last {w wr w6 : World} {n g c : Nat} (hb : Below w.heap.size w wr) (hg : w.heap.size ≤ g) (hg6 : (wr.alloc (.cells #[.int .u8 0] 5)).grownBy w6 (Value.slice (some ⟨g, 0, none⟩) n c).ownBlock) : Below w.heap.size w w6 :=
  (hb.alloc hb.size _).grown hg6 (by simp; exact Nat.le_trans hb.size (Nat.le_succ _)) (fun i hi => by simp [Value.ownBlock] at hi; omega)

set_option maxHeartbeats 3200000 in
set_option maxRecDepth 100000 in
theorem walk (v lo hi more : Int) (h1 : -9223372036854775808 ≤ v) (h2 : v ≤ 9223372036854775807) (w : World) (ht : Tab w) :
    Calls Tryd.prog 6 #[.int .i64 v, .int .i64 lo, .int .i64 hi, .int .i64 more] w fun e w' => e = .returned (.bool true) ∧ Below w.heap.size w w' := by
  obtain ⟨M, hM, hM3⟩ : ∃ M : Nat, wrap64 ((IntKind.u64.wrap more).tmod 3) = (M : Int) ∧ M ≤ 2 := by
    refine ⟨((IntKind.u64.wrap more) % 3).toNat, ?_, ?_⟩
    · have h0 : 0 ≤ IntKind.u64.wrap more := by rw [IntKind.wrap_u64]; omega
      rw [Int.tmod_eq_emod_of_nonneg h0, wrap64_small _ (by omega) (by omega)]; omega
    · omega
  replace ht := Lib.hid ht
  have W0 := Lib.hid (Wr.new w)
  have be0 : Hid (Below w.heap.size w (w.alloc (.cells #[.pointer none, .int .i64 0] 26))) := (Below.refl _ _).alloc (Nat.le_refl _) _
  go_enter Tryd.func6, Tryd.ntmps6
  go_wp2_with fail
  refine (wint_any w.heap.size _ [] W0.out v h1 h2 (by simp)).mono ?_
  rintro e w1 ⟨rfl, hw1⟩
  have be1 : Hid _ := be0.out.trans hw1.be
  have W1 : Hid (Wr w1 w.heap.size (encI v)) := hw1.wr
  clear hw1 be0 W0
  have hL := encI_len v h1 h2
  obtain ⟨L, hL0⟩ : ∃ L, L = (encI v).length := ⟨_, rfl⟩
  rw [← hL0] at hL
  have hL1 : 1 ≤ L := by rw [hL0]; exact enc_ne _
  go_wp2_with fail
  have B := bytes_any w.heap.size w1 _ W1.out (by rw [← hL0]; omega)
  rw [← hL0] at B
  refine B.mono ?_
  rintro e w2 ⟨bv, rfl, h4, b4⟩
  have be2 : Hid (Below w.heap.size w w2) := be1.out.trans (b4.mono be1.out.size)
  obtain ⟨A, c, rfl⟩ := own_form h4
  have R2 : Hid (Rb w2 (fun g => g < w2.heap.size) A L (encI v)) := (Rb.of_own h4).keep (fun _ _ => rfl) (fun g hg => hg.2.lt)
  have hA : Hid (A = none → c = 0) := fun e => by
    subst e
    rcases h4.2 with ⟨e, _⟩ | ⟨g, cap, cur, e, _⟩
    · injection e
    · injection e with e; cases e
  clear B h4 b4 be1 W1
  replace hL0 := Lib.hid hL0
  have hL2 : ¬ L = 0 := by omega
  go_wp2_with fail
  refine (new_any w2 A L c _ R2.out (fun g hg => hg) (by omega) hA.out).mono ?_
  rintro e w3 ⟨r, rfl, hr3, R3, b3⟩
  have be3 : Hid (Below w.heap.size w w3) := be2.out.trans (b3.mono be2.out.size)
  have Rs3 : Hid (Rb w3 (fun g => g < w2.heap.size) A L (encI v)) := R2.out.keep (fun g hg => b3.block g hg) (fun _ h => h)
  have hr3' := Lib.hid hr3
  replace R3 := Lib.hid R3
  have hw2 : Hid (w.heap.size ≤ w2.heap.size) := be2.out.size
  have hw3 : Hid (w2.heap.size ≤ w3.heap.size) := b3.size
  clear hr3 b3 be2 R2
  go_wp2_with fail
  have Q := rint_any r w3 _ lo hi R3.out
  by_cases hl : lo ≤ v <;> by_cases hh : v ≤ hi
  all_goals
    first
      | rw [rInt_ok h1 h2 ⟨hl, hh⟩] at Q
      | rw [rInt_far h1 h2 (by omega)] at Q
    refine Q.mono ?_
    rintro e w4 ⟨rfl, R4⟩
    clear Q R3
    have be4 : Hid (Below w.heap.size w w4) := be3.out.trans (grown_below R4.gr (Nat.le_trans hw2.out hr3'.out) be3.out.size)
    have hw4 : Hid (w2.heap.size ≤ w4.heap.size) := Nat.le_trans hw3.out R4.gr.size
    have Rs4 : Hid (Rb w4 (fun g => g < w4.heap.size) A L (encI v)) := Rs3.out.keep (fun g hg => R4.gr.block g (Nat.lt_of_lt_of_le hg hw3.out) (fun e => by
      injection e with e
      have := hr3'.out
      omega)) (fun g hg => Nat.lt_of_lt_of_le hg hw4.out)
    have Rx4 : Hid (Rb (w4.alloc (.cells #[] 5)) (fun _ => True) A L (encI v)) := Rs4.out.keep (fun g hg => heap_alloc_old _ _ hg) (fun _ _ => trivial)
    have O4 : Hid ((w4.alloc (.cells #[] 5)).ownsRow w4.heap.size 5 1 (.slice (some ⟨w4.heap.size, 0, none⟩) 0 0) 0 (u8s [])) := World.ownsRow_lit w4 #[] 0 (Nat.le_refl _) (by unfold maxLen; omega) rfl
    have hLb : 0 + L ≤ 140737488355328 := by omega
    replace R4 := Lib.hid R4.rd
    clear hw2 hw3 Rs3 be3 hA
    go_wp2_with (first
      | (go_at_call 25; ((with_reducible refine (rend_any r w4 _ R4.out).mono ?_); rintro e w' ⟨rfl, rfl⟩))
      | (at_builtin; refine wpList_append_b _ rfl (.tmp 61) (.tmp 62) rfl w4.heap.size (.slice (some ⟨w4.heap.size, 0, none⟩) 0 0) 0 [] rfl O4.out rfl Rx4.out hLb (by simp) ?_; intro v5 w5 hown5 hg5 _; simp only [Nat.zero_add, List.nil_append] at hown5; obtain ⟨g, c5, x, y, rfl, hg, hgl, hc5, hc5x, hc12, hf12, hor, hx256, hy, O6⟩ := copied_last hown5 hL1; have be5 : Hid (Below w4.heap.size w4 w5) := copied_below hg5; have O6' := Lib.hid O6; have hy' := Lib.hid hy; have hgx := Lib.hid hg; clear hown5 hg5 hy hg O6 O4 Rx4 Rs4 R4))
    have st : Hid (FAt w4 w4.heap.size (.slice (some ⟨g, 0, none⟩) L c5) (.int .i64 0) (w5.setCell ⟨g, L - 1, none⟩ (.int .u8 (y.toNat : Int)))) :=
      ⟨0, L, (encI v).set (L - 1) y, rfl, by omega, O6'.out, hL1, by omega, set_go _ _ hy'.out _ (by have := hL0.out; unfold encI at this; omega), be5.out.setCell hgx.out _⟩
    clear O6' hy' hgx hf12 hc12 hor
    go_loopw [14, 15] (fun v i wr => FAt w4 w4.heap.size v i wr) (fun _ i _ => 3 - (intOf i).toNat)
    case atStart => exact st.out
    case round =>
      obtain ⟨k, n, bs, rfl, hk, ho, hn0, hn, hc, hb⟩ := hrel
      obtain ⟨g2, c2, rfl, hg2, hgl2, hcc2, hcc3⟩ := own_some ho hn0
      replace ho := Lib.hid ho
      replace hc := Lib.hid hc
      replace hb := Lib.hid hb
      by_cases hkM : k < M
      · have Rn : Hid (Rb (wr.alloc (.cells #[.int .u8 128] 5)) (fun g => g = wr.heap.size) (some ⟨wr.heap.size, 0, none⟩) 1 [128]) := rb_one wr 128 128 rfl
        have On : Hid _ := ho.out.alloc (.cells #[.int .u8 128] 5)
        have hnb : n + 1 ≤ 140737488355328 := by omega
        have hsz : Hid (w4.heap.size ≤ wr.heap.size) := hb.out.size
        go_wp2_with (at_builtin; refine wpList_append_b _ rfl (.tmp 84) (.tmp 85) rfl w4.heap.size (.slice (some ⟨g2, 0, none⟩) n c2) n bs rfl On.out rfl Rn.out hnb (by have := hsz.out; simp; omega) ?_; intro v6 w6 hown6 hg6 _; have st6 : Hid (FAt w4 w4.heap.size v6 (.int .i64 ((k : Int) + 1)) w6) := f_next (by omega) hn0 hn hc.out hb.out hg2 hown6 hg6; clear hown6 hg6)
        go_roundw
        case rel => exact st6.out
        case measure => simp [intOf]; omega
      · have Rn : Hid (Rb (wr.alloc (.cells #[.int .u8 0] 5)) (fun g => g = wr.heap.size) (some ⟨wr.heap.size, 0, none⟩) 1 [0]) := rb_one wr 0 0 rfl
        have On : Hid _ := ho.out.alloc (.cells #[.int .u8 0] 5)
        have hnb : n + 1 ≤ 140737488355328 := by omega
        have hsz : Hid (w4.heap.size ≤ wr.heap.size) := hb.out.size
        go_wp2_with (at_builtin; refine wpList_append_b _ rfl (.tmp 87) (.tmp 88) rfl w4.heap.size (.slice (some ⟨g2, 0, none⟩) n c2) n bs rfl On.out rfl Rn.out hnb (by have := hsz.out; simp; omega) ?_; intro v6 w6 hown6 hg6 _; obtain ⟨g6, c6, rfl, hg6x, hgl6, hcc6, hcc6x⟩ := own_some hown6 (by omega); have be6 : Hid (Below w4.heap.size w4 w6) := f_last hb.out hg2 hg6; have R6 : Hid (Rb w6 (fun g => g < w6.heap.size) (some ⟨g6, 0, none⟩) (n + 1) (bs ++ [0])) := (Rb.of_own hown6).keep (fun _ _ => rfl) (fun g hg => hg.2.lt); clear hown6 hg6)
        refine (new_any w6 (some ⟨g6, 0, none⟩) (n + 1) c6 _ R6.out (fun g hg => hg) (by omega) (fun e => by cases e)).mono ?_
        rintro e w7 ⟨r7, rfl, hr7, R7, b7⟩
        have be7 : Hid (Below w.heap.size w w7) := be4.out.trans ((be6.out.trans (b7.mono be6.out.size)).mono be4.out.size)
        have hr7' : Hid (w.heap.size ≤ r7) := Nat.le_trans be4.out.size (Nat.le_trans be6.out.size hr7)
        replace R7 := Lib.hid R7
        have hbl : Hid (0 < bs.length) := by have := ho.out.1; rw [u8s_len] at this; show 0 < _; omega
        clear hr7 b7 R6 be6 hsz Rn On ho hb
        go_wp2_with fail
        refine (told_any w7 (ht.out.below be7.out)).mono ?_
        rintro e w8 ⟨rfl, b8⟩
        have be8 : Hid (Below w.heap.size w w8) := be7.out.trans (b8.mono be7.out.size)
        have R8 : Hid _ := R7.out.below b8
        clear b8 be7 R7
        go_wp2_with fail
        have Q8 := rint_any r7 w8 _ (-9223372036854775808) 9223372036854775807 R8.out
        rw [rInt_long hbl.out hc.out] at Q8
        refine Q8.mono ?_
        rintro e w9 ⟨rfl, R9⟩
        clear Q8 R8
        have be9 : Hid (Below w.heap.size w w9) := be8.out.trans (grown_below R9.gr hr7'.out be8.out.size)
        replace R9 := Lib.hid R9.rd
        go_wp2_with fail
        refine (rend_any r7 w9 _ R9.out).mono ?_
        rintro e w10 ⟨rfl, rfl⟩
        go_wp2
        go_ret
        exact ⟨rfl, be9.out⟩

theorem walkd (a0 : Int) (w0 : (Lit.int .i64 a0).wf = true) (a1 : Int) (_w1 : (Lit.int .i64 a1).wf = true) (a2 : Int) (_w2 : (Lit.int .i64 a2).wf = true) (a3 : Int) (_w3 : (Lit.int .i64 a3).wf = true) (W : World) (ht : Tab W) :
    Calls Tryd.prog 6 #[.int .i64 a0, .int .i64 a1, .int .i64 a2, .int .i64 a3] W fun e w' => e = .returned (.bool true) ∧ Below W.heap.size W w' :=
  have hb := bounds_i64 w0
  walk a0 a1 a2 a3 hb.1 hb.2 W ht

/-! The row: every input, the listed variable as the condition has it. -/
set_option linter.unusedVariables false
set_option maxRecDepth 100000 in
theorem lifted (os : Os) (started : os.Started) (H : Type) (enc : TypeId × Value → H) :
    ReturnsInHanded {} Tryd.checked os 6 .any (fun w args => (Rows.packFormsSpec.pre enc Tryd.prog Tryd.f6 [] false w args ∧ laidMetH Tryd.prog laids w) ∧ sizedMet enc Tryd.prog Tryd.f6 (OpenSpec.ofChange Rows.packFormsSpec) false w args)
      (Rows.packFormsSpec.post enc Tryd.prog Tryd.f6 false true false false) := by
  refine returnsInHanded_of_change_and (C := Tryd.checked) (X := fun w _ => laidMetH Tryd.prog laids w) (fun _ _ _ hh h => h.of_heap hh) own started (by kernel_rfl) Tryd.func6
    (ChangeSpec.witness_shaped (enc := enc) (C := Tryd.checked) (os := os) (X := fun w _ => laidMetH Tryd.prog laids w) false (World.doorLaid Tryd.prog 400 os) #[.int .i64 0, .int .i64 0, .int .i64 0, .int .i64 0] 8 rfl (World.shaped_of_RefB (by kernel_rfl) (by kernel_rfl)) (by kernel_rfl) (by kernel_rfl) (by kernel_rfl) (door_met os _)) ?_
  intro W base args ds gs before hval0 hW _ _ hL _
  have hval : ∀ (j : Nat) t v, Tryd.f6.params[j]? = some t → args[j]? = some v → Value.okWide Tryd.prog W .any base t v := hval0
  have hW' := hW
  obtain ⟨p, q, hA0, hV, rfl, hfz, hnd⟩ := hW
  have hA : DataW.TrodAll enc Tryd.prog W 0 (fun _ => true) true Tryd.f6.params.toList args.toList ds p := hA0
  rw [Tryd.params6] at hA hval
  obtain ⟨v0, vs0, d0, ds0, p0, q0, hargs, rfl, rfl, h0, r0⟩ := trodAll_cons hA
  obtain ⟨v1, vs1, d1, ds1, p1, q1, rfl, rfl, rfl, h1, r1⟩ := trodAll_cons r0
  obtain ⟨v2, vs2, d2, ds2, p2, q2, rfl, rfl, rfl, h2, r2⟩ := trodAll_cons r1
  obtain ⟨v3, vs3, d3, ds3, p3, q3, rfl, rfl, rfl, h3, r3⟩ := trodAll_cons r2
  obtain ⟨rfl, rfl, rfl⟩ := trodAll_nil r3
  obtain rfl : args = #[v0, v1, v2, v3] := by cases args; simp_all
  obtain ⟨rfl, rfl⟩ := trodVars_none hV
  obtain ⟨a0, rfl, rfl, rfl, w0⟩ := open_int Tryd.underlying2 (hval 0 2 v0 rfl rfl) h0
  obtain ⟨a1, rfl, rfl, rfl, w1⟩ := open_int Tryd.underlying2 (hval 1 2 v1 rfl rfl) h1
  obtain ⟨a2, rfl, rfl, rfl, w2⟩ := open_int Tryd.underlying2 (hval 2 2 v2 rfl rfl) h2
  obtain ⟨a3, rfl, rfl, rfl, w3⟩ := open_int Tryd.underlying3 (hval 3 3 v3 rfl rfl) h3
  clear hA0 hval0
  simp only [List.append_nil] at hW'
  refine (walkd a0 w0 a1 w1 a2 w2 a3 w3 W (of_laid hL)).mono fun e W' ⟨he, hb⟩ => ?_
  subst he
  exact ⟨_, rfl, post_below (pa := []) (pv := []) hW' (fun _ _ _ => (trodAll_cons_mk (shut_bool Tryd.underlying4 _) trodAll_mk0)) (fun sp _ => (trodAll_cons_mk (shut_int Tryd.underlying2 w0) (trodAll_cons_mk (shut_int Tryd.underlying2 w1) (trodAll_cons_mk (shut_int Tryd.underlying2 w2) (trodAll_cons_mk (shut_int Tryd.underlying3 w3) trodAll_mk0))))) (fun _ _ => rfl) rfl
    hb (ok_one (by kernel_rfl) rfl (okWide_bool_mk Tryd.underlying4 _))⟩

theorem over : Rows.packFormsRow.holds Tryd.pinned (OpenSpec.ofChange Rows.packFormsSpec) :=
  OpenClaim.holds_of_wide 6 Tryd.f6 rfl rfl rfl rfl rfl rfl rfl ⟨rfl, rfl, rfl, rfl, rfl⟩ rfl rfl rfl rfl rfl (by kernel_rfl) Tryd.func6 (by kernel_rfl)
    (of_decide_eq_true (by kernel_rfl)) (by unfold Func.isWrapper; first | (rw [if_pos (by decide +kernel)]; kernel_rfl) | (rw [if_neg (by decide +kernel)]; exact ⟨rfl, rfl⟩))
    (fun os started H enc _ => lifted os started H enc)

/-- The tied card. -/
theorem proved : Rows.PackFormsCardSaid :=
  Claim7.holds_tied_plain_at .later [] [.data] true _ false
    over (fun _ h => by cases h) (by kernel_rfl) (fun _ h => by cases h) packForms_row_tie rfl ⟨rfl, rfl⟩ (by kernel_rfl) rfl
    (fun f fn hf hfn => by
      obtain rfl : f = 6 := Option.some.inj ((show Tryd.prog.funcNamed "sojourn/sojournlaw1.PackForms" = some 6 by kernel_rfl).symm.trans hf) |>.symm
      obtain rfl : fn = Tryd.f6 := (Option.some.inj (Tryd.func6.symm.trans hfn)).symm
      exact ⟨by kernel_rfl, fun j t ht => by
        rw [Tryd.params6] at ht
        have hm : t ∈ [2, 2, 2, 3] := by simpa using Array.mem_of_getElem? ht
        have hall : ([2, 2, 2, 3].all fun u => !Tryd.prog.wantsStandIn u) = true := by kernel_rfl
        exact (show Tryd.prog.wantsStandIn t = false by simpa using List.all_eq_true.1 hall t hm)⟩)
    (by kernel_rfl)
#print axioms proved

end Go.Proofs.YtfdgjdakaibifaaDoor.packForms
