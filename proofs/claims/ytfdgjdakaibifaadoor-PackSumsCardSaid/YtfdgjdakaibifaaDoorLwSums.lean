/- Proved: Sum is the check sum bit by bit as the document says, and one byte that is turned turns it (PackSums), for all bytes, every place and turn, the package's table being as the program's text lays it. -/
import Derived.Test.YtfdgjdakaibifaaDoorLwSumsM
import Derived.Test.YtfdgjdakaibifaaDoorPkO
import Derived.Test.YtfdgjdakaibifaaDoorCards
import Derived.Test.YtfdgjdakaibifaaDoorTie
namespace Go.Proofs.YtfdgjdakaibifaaDoor.packSums
open Go.ChangeShapes Go.WideShapes Go.ChangeAt Go.WideElems Go.RowKit
open Go.ChangeMaps (open_string shut_string)
open Go.Proofs.YtfdgjdakaibifaaDoor.Pk

def OutAt (bs : List UInt8) (c i : Value) : Prop := ∃ k : Nat, i = .int .i64 k ∧ k ≤ bs.length ∧ c = .int .u32 (run 4294967295 (bs.take k) : Nat)
def InAt (x : Nat) (c j : Value) : Prop := ∃ k : Nat, j = .int .i64 k ∧ k ≤ 8 ∧ c = .int .u32 (bitN k x : Nat)

theorem and1_32 (a : Nat) (h : a < 4294967296) : bits .and .u32 (a : Int) 1 = ((a % 2 : Nat) : Int) := by
  have r := u32_and_nat a 1 h (by omega)
  rw [Nat.and_one_is_mod] at r
  exact r
theorem xor_poly (a : Nat) (h : a < 4294967296) : bits .xor .u32 ((a : Int) / 2) 3988292384 = (((a / 2) ^^^ 3988292384 : Nat) : Int) := by
  rw [show (a : Int) / 2 = ((a / 2 : Nat) : Int) by omega]
  exact u32_xor_nat _ 3988292384 (by omega) (by omega)

set_option maxHeartbeats 1600000 in
set_option maxRecDepth 100000 in
theorem rsum (w : World) (bs : List UInt8) (hn : bs.length ≤ 9223372036854775807) :
    Calls Tryd.prog 28 #[.string (str bs)] w fun e w' => e = .returned (.int .u32 (sumOf bs : Nat)) ∧ w = w' := by
  have hsz := str_size bs
  obtain ⟨s, hs⟩ : ∃ s, s = str bs := ⟨_, rfl⟩
  rw [← hs] at hsz ⊢
  have hget : Hid (∀ k (h : k < s.size), bs[k]? = some s[k]) := by
    intro k h
    subst hs
    have : k < bs.length := by omega
    rw [List.getElem?_eq_getElem this]
    rfl
  have hsn : s.size ≤ 9223372036854775807 := by omega
  replace hsz := Lib.hid hsz
  clear hs hn
  go_enter Tryd.func28, Tryd.ntmps28
  go_wp2
  go_loop [3, 4] (fun c i => OutAt bs c i) (fun _ i => s.size - (intOf i).toNat)
  case atStart => exact ⟨0, rfl, Nat.zero_le _, rfl⟩
  case round =>
    obtain ⟨k, rfl, hk, rfl⟩ := hrel
    have hks : k ≤ s.size := by have := hsz.out; omega
    clear hk
    obtain ⟨q, hq⟩ : ∃ q, q = run 4294967295 (bs.take k) := ⟨_, rfl⟩
    have hq2 : q < 4294967296 := by rw [hq]; exact run_lt _ _ (by omega)
    rw [← hq]
    by_cases hlt : k < s.size
    · obtain ⟨x, hx⟩ : ∃ x, x = s[k] := ⟨_, rfl⟩
      have hxk : Hid (bs[k]? = some x) := by rw [hx]; exact hget.out k hlt
      obtain ⟨a, ha⟩ : ∃ a, a = q ^^^ x.toNat := ⟨_, rfl⟩
      have ha2 : a < 4294967296 := by rw [ha]; exact xor_lt32 hq2 x
      have r1 : bits .xor .u32 (q : Int) ((s[k].toNat : Int) % 4294967296) = (a : Int) := by
        rw [ha, ← hx, show ((x.toNat : Int) % 4294967296) = (x.toNat : Int) by have := x.toNat_lt; omega]
        exact u32_xor_nat _ _ hq2 (by have := x.toNat_lt; omega)
      have hnext : Hid (run 4294967295 (bs.take (k + 1)) = bitN 8 a) := by
        unfold Hid
        rw [List.take_add_one, hxk.out, ha, ← byt_bit, hq]
        exact run_snoc _ _ _
      clear hx hq ha
      replace r1 := r1
      go_wp2_with fail
      go_loop [3, 5] (fun c j => InAt a c j) (fun _ j => 8 - (intOf j).toNat)
      case atStart => exact ⟨0, rfl, Nat.zero_le _, rfl⟩
      case round =>
        obtain ⟨j, rfl, hj, rfl⟩ := hrel
        by_cases hj8 : j < 8
        · obtain ⟨y, hy⟩ : ∃ y, y = bitN j a := ⟨_, rfl⟩
          have hy2 : y < 4294967296 := by rw [hy]; exact bitN_lt a ha2 j
          have hn2 : Hid (bitN (j + 1) a = bit y) := by unfold Hid; rw [hy]; rfl
          rw [← hy]
          clear hy
          by_cases hp : y % 2 = 1
          · have r2 : bits .and .u32 (y : Int) 1 = 1 := by rw [and1_32 y hy2, hp]; rfl
            obtain ⟨z, hz⟩ : ∃ z, z = (y / 2) ^^^ 3988292384 := ⟨_, rfl⟩
            have r3 : bits .xor .u32 ((y : Int) / 2) 3988292384 = (z : Int) := by rw [hz]; exact xor_poly y hy2
            have hb : Hid (bit y = z) := by unfold Hid bit; rw [if_pos hp, hz]
            replace hp := Lib.hid hp
            clear hz
            go_wp2
            exact ⟨⟨j + 1, by go_num, by omega, by rw [hn2.out, hb.out]⟩, by simp [intOf]; omega⟩
          · have r2 : bits .and .u32 (y : Int) 1 = 0 := by rw [and1_32 y hy2, show y % 2 = 0 by omega]; rfl
            have hb : Hid (bit y = y / 2) := by unfold Hid bit; rw [if_neg hp]
            replace hp := Lib.hid hp
            go_wp2
            exact ⟨⟨j + 1, by go_num, by omega, by rw [hn2.out, hb.out]; simp⟩, by simp [intOf]; omega⟩
        · obtain rfl : j = 8 := by omega
          have hlen : Hid (k + 1 ≤ bs.length) := by have := hsz.out; show _ ≤ _; omega
          go_wp2
          exact ⟨⟨k + 1, by go_num, hlen.out, by rw [hnext.out]⟩, by simp [intOf]; omega⟩
    · have hd : Hid (q = run 4294967295 bs) := by unfold Hid; rw [hq, List.take_of_length_le (by have := hsz.out; omega)]
      clear hq
      go_wp2
      go_ret
      exact ⟨ret_u32 (by rw [u32_not q hq2]; unfold sumOf; rw [← hd.out]), rfl⟩

theorem own_some {w : World} {base n : Nat} {e : TypeId} {v : Value} {xs : List Value} (h : w.ownsRow base e 1 v n xs) (hn : 0 < n) : ∃ g c, v = .slice (some ⟨g, 0, none⟩) n c ∧ base ≤ g ∧ g < w.heap.size ∧ n ≤ c ∧ c ≤ maxLen := by
  rcases h.2 with ⟨_, h0⟩ | ⟨g, cap, cur, e, hb, hh, h1, h2, _⟩
  · omega
  · exact ⟨g, cap, e, hb, lt_some hh, h1, h2⟩
theorem u8s_set (bs : List UInt8) (k : Nat) (y : UInt8) : (u8s bs).set k (.int .u8 (y.toNat : Int)) = u8s (bs.set k y) := by simp [u8s, List.map_set]
theorem xor_z (y : UInt8) (x : Int) (h1 : 0 ≤ x) (h2 : x ≤ 255) : ∃ z : UInt8, bits .xor .u8 (y.toNat : Int) x = (z.toNat : Int) ∧ (y = z ↔ x = 0) := by
  obtain ⟨n, rfl⟩ := Int.eq_ofNat_of_zero_le h1
  have hy := y.toNat_lt
  have hlt : y.toNat ^^^ n < 256 := Nat.xor_lt_two_pow (n := 8) (by omega) (by omega)
  refine ⟨UInt8.ofNat (y.toNat ^^^ n), by rw [ofNat_toNat hlt]; exact u8_xor_nat _ _ (by omega) (by omega), ?_⟩
  constructor
  · intro h
    have := congrArg UInt8.toNat h
    rw [ofNat_toNat hlt] at this
    have := congrArg (y.toNat ^^^ ·) this
    simp only [← Nat.xor_assoc, Nat.xor_self, Nat.zero_xor] at this
    omega
  · intro h
    have : n = 0 := by omega
    subst this
    apply UInt8.toNat_inj.1
    rw [ofNat_toNat hlt, Nat.xor_zero]
theorem turned {w : World} {base L k : Nat} {v : Value} {bs : List UInt8} {x : Int} (h : w.ownsRow base 5 1 v L (u8s bs)) (hk : k < L) (h1 : 0 ≤ x) (h2 : x ≤ 255) :
    ∃ (g c : Nat) (y z : UInt8), v = .slice (some ⟨g, 0, none⟩) L c ∧ base ≤ g ∧ g < w.heap.size ∧ L ≤ c ∧ c ≤ 9223372036854775807 ∧ bs[k]? = some y ∧ w.cell? ⟨g, k, none⟩ = some (.int .u8 (y.toNat : Int)) ∧ w.frozen? ⟨g, k, none⟩ = false ∧
      bits .xor .u8 (y.toNat : Int) x = (z.toNat : Int) ∧ (y = z ↔ x = 0) ∧ y.toNat < 256 ∧ (w.setCell ⟨g, k, none⟩ (.int .u8 (z.toNat : Int))).ownsRow base 5 1 (.slice (some ⟨g, 0, none⟩) L c) L (u8s (bs.set k z)) := by
  obtain ⟨g, c, rfl, hg, hgl, hc1, hc2⟩ := own_some h (by omega)
  have hl := h.1
  rw [u8s_len] at hl
  obtain ⟨y, hy⟩ : ∃ y, bs[k]? = some y := ⟨_, List.getElem?_eq_getElem (by omega)⟩
  obtain ⟨z, hz, hyz⟩ := xor_z y x h1 h2
  unfold maxLen at hc2
  refine ⟨g, c, y, z, rfl, hg, hgl, hc1, by omega, hy, ?_, h.frozenAt k, hz, hyz, y.toNat_lt, ?_⟩
  · rw [h.cellAt k (by omega), u8s, List.getElem?_map, hy]
    rfl
  · rw [← u8s_set]
    exact (h.stored k _).1
theorem copied_below {w w' : World} (hg : (w.alloc (.cells #[] 5)).grownBy w' (Value.slice (some ⟨w.heap.size, 0, none⟩) 0 0).ownBlock) : Below w.heap.size w w' :=
  ((Below.refl _ w).alloc (Nat.le_refl _) _).grown hg (by simp) (fun k hk => by simp [Value.ownBlock] at hk; omega)
theorem sum_same (w : World) {T : Nat → Prop} (A : Option Addr) (n c : Nat) (bs : List UInt8) (h : Rb w T A n bs) (ht : Tab w) (hn : n ≤ 9223372036854775807) :
    Calls Tryd.prog 27 #[.slice A n c] w fun e w' => e = .returned (.int .u32 (sumOf bs : Nat)) ∧ w' = w := (sum_any w A n c bs h ht hn).mono fun _ _ ⟨h1, h2⟩ => ⟨h1, h2.symm⟩
theorem rsum_same (w : World) (bs : List UInt8) (hn : bs.length ≤ 9223372036854775807) :
    Calls Tryd.prog 28 #[.string (str bs)] w fun e w' => e = .returned (.int .u32 (sumOf bs : Nat)) ∧ w' = w := (rsum w bs hn).mono fun _ _ ⟨h1, h2⟩ => ⟨h1, h2.symm⟩
theorem place (at_ : Int) (L : Nat) (hL : 0 < L) (hm : L ≤ 500) : ∃ k : Nat, wrap64 ((IntKind.u64.wrap at_).tmod (L : Int)) = (k : Int) ∧ k < L := by
  refine ⟨((IntKind.u64.wrap at_) % (L : Int)).toNat, ?_, ?_⟩
  · have h0 : 0 ≤ IntKind.u64.wrap at_ := by rw [IntKind.wrap_u64]; omega
    have h1 := Int.emod_nonneg (IntKind.u64.wrap at_) (show (L : Int) ≠ 0 by omega)
    have h2 := Int.emod_lt_of_pos (IntKind.u64.wrap at_) (show (0 : Int) < L by omega)
    rw [Int.tmod_eq_emod_of_nonneg h0, wrap64_small _ (by omega) (by omega)]; omega
  · have h1 := Int.emod_nonneg (IntKind.u64.wrap at_) (show (L : Int) ≠ 0 by omega)
    have h2 := Int.emod_lt_of_pos (IntKind.u64.wrap at_) (show (0 : Int) < L by omega)
    omega

set_option maxHeartbeats 3200000 in
set_option maxRecDepth 100000 in
theorem walk (A : Option Addr) (m c : Nat) (bs : List UInt8) (w : World) (R : Rb w (fun g => g < w.heap.size) A m bs) (at_ x : Int) (hx1 : 0 ≤ x) (hx2 : x ≤ 255) (ht : Tab w) :
    Calls Tryd.prog 7 #[.slice A m c, .int .i64 at_, .int .u8 x] w fun e w' => e = .returned (.bool true) ∧ Below w.heap.size w w' := by
  replace ht := Lib.hid ht
  replace R := Lib.hid R
  by_cases h500 : 500 < m
  · have Q := Lib.hid (told_any w ht.out)
    go_enter Tryd.func7, Tryd.ntmps7
    go_wp2_with (go_at_call 11; ((with_reducible refine Q.out.mono ?_); rintro e w' ⟨rfl, hb⟩))
    go_ret
    exact ⟨rfl, hb⟩
  have hl := Lib.hid R.out.len
  have Rn : Hid (∀ n, Rb (w.drewN n) (fun g => g < w.heap.size) A m bs) := fun n => ⟨R.out.len, R.out.at_⟩
  have S1 := Lib.hid (fun n => sum_same (w.drewN n) A m c bs (Rn.out n) (show Tab (w.drewN n) from ht.out) (by omega))
  have S2 := Lib.hid (fun n => rsum_same (w.drewN n) bs (by have := hl.out; omega))
  have hs := fun n => str_run (c := c) (Rn.out n)
  go_enter Tryd.func7, Tryd.ntmps7
  go_wp2
  go_quiet ((first | (go_at_call 27; exact Calls.quiet_of_same (S1.out _)) | (go_at_call 28; exact Calls.quiet_of_same (S2.out _))))
  have be1 : Hid (Below w.heap.size w (w.drewN nq)) := ⟨rfl, rfl, rfl, Nat.le_refl _, fun _ _ => rfl⟩
  have R1 : Hid (Rb (w.drewN nq) (fun g => g < (w.drewN nq).heap.size) A m bs) := Rn.out nq
  have t1 : Hid (Tab (w.drewN nq)) := ht.out
  have z1 : Hid (w.heap.size ≤ (w.drewN nq).heap.size) := Nat.le_refl _
  clear Rn S1 S2 hs R ht
  generalize w.drewN nq = w1 at *
  by_cases h0 : m = 0
  · subst h0
    have Q := Lib.hid (told_any w1 t1.out)
    go_wp2_with (go_at_call 11; ((with_reducible refine Q.out.mono ?_); rintro e w' ⟨rfl, hb⟩))
    go_ret
    exact ⟨rfl, be1.out.trans (hb.mono be1.out.size)⟩
  · have hm1 : 0 < m := by omega
    obtain ⟨k, hK, hkm⟩ := place at_ m hm1 (by omega)
    have Rx1 : Hid (Rb (w1.alloc (.cells #[] 5)) (fun _ => True) A m bs) := R1.out.keep (fun g hg => heap_alloc_old _ _ hg) (fun _ _ => trivial)
    have O1 : Hid ((w1.alloc (.cells #[] 5)).ownsRow w1.heap.size 5 1 (.slice (some ⟨w1.heap.size, 0, none⟩) 0 0) 0 (u8s [])) := World.ownsRow_lit w1 #[] 0 (Nat.le_refl _) (by unfold maxLen; omega) rfl
    have hLb : 0 + m ≤ 140737488355328 := by omega
    go_wp2_with (at_builtin; refine wpList_append_b _ rfl (.tmp 23) (.tmp 24) rfl w1.heap.size (.slice (some ⟨w1.heap.size, 0, none⟩) 0 0) 0 [] rfl O1.out rfl Rx1.out hLb (by simp) ?_; intro v5 w5 hown5 hg5 _; simp only [Nat.zero_add, List.nil_append] at hown5; obtain ⟨g, c5, y, z, rfl, hg, hgl, hc5, hc5x, hy, hc12, hf12, hor, hyz, hy256, O6⟩ := turned hown5 hkm hx1 hx2; have be5 : Hid (Below w1.heap.size w1 w5) := copied_below hg5; have O6' := Lib.hid O6; have hy' := Lib.hid hy; have hgx := Lib.hid hg; have hyz' := Lib.hid hyz; clear hown5 hg5 hy hg O6 O1 Rx1 hyz)
    have be6 : Hid (Below w1.heap.size w1 (w5.setCell ⟨g, k, none⟩ (.int .u8 (z.toNat : Int)))) := be5.out.setCell hgx.out _
    have t6 : Hid (Tab (w5.setCell ⟨g, k, none⟩ (.int .u8 (z.toNat : Int)))) := t1.out.below be6.out
    refine (told_any _ t6.out).mono ?_
    rintro e w7 ⟨rfl, b7⟩
    have be7 : Hid (Below w1.heap.size w1 w7) := be6.out.trans (b7.mono be6.out.size)
    have t7 : Hid (Tab w7) := t1.out.below be7.out
    have Rb7 : Hid (Rb w7 (fun _ => True) A m bs) := R1.out.keep (fun g hg => be7.out.block g hg) (fun _ _ => trivial)
    have Rc7 : Hid (Rb w7 (fun _ => True) (some ⟨g, 0, none⟩) m (bs.set k z)) := (Rb.of_own (own_below O6'.out b7)).keep (fun _ _ => rfl) (fun _ _ => trivial)
    have be8 : Hid (Below w.heap.size w w7) := be1.out.trans (be7.out.mono be1.out.size)
    clear b7 be6 be7 t6 O6' R1 be5 hc12 hf12 hor hK
    obtain ⟨s1, hs1⟩ : ∃ s1, s1 = sumOf bs := ⟨_, rfl⟩
    obtain ⟨s2, hs2⟩ : ∃ s2, s2 = sumOf (bs.set k z) := ⟨_, rfl⟩
    have hst : (s1 = s2) ↔ x = 0 := by rw [hs1, hs2]; exact (sum_turn hy'.out).trans hyz'.out
    have C1 := sum_any w7 A m c bs Rb7.out t7.out (by omega)
    rw [← hs1] at C1
    have C2 := sum_any w7 (some ⟨g, 0, none⟩) m c5 (bs.set k z) Rc7.out t7.out (by omega)
    rw [← hs2] at C2
    replace C1 := Lib.hid C1
    replace C2 := Lib.hid C2
    replace hst := Lib.hid hst
    clear hs1 hs2 Rb7 Rc7 t7 t1
    by_cases hx0 : x = 0
    · obtain rfl : s1 = s2 := hst.out.2 hx0
      subst hx0
      go_wp2_with fail
      refine C1.out.mono ?_
      rintro e w' ⟨rfl, rfl⟩
      go_wp2_with fail
      refine C2.out.mono ?_
      rintro e w' ⟨rfl, rfl⟩
      go_wp2
      go_ret
      exact ⟨rfl, be8.out⟩
    · have hne : ¬ s1 = s2 := fun h => hx0 (hst.out.1 h)
      have q1 : ((s1 : Int) == (s2 : Int)) = false := by simpa using (fun h => hne (by omega))
      have q2 : (x == 0) = false := by simpa using hx0
      go_wp2_with fail
      refine C1.out.mono ?_
      rintro e w' ⟨rfl, rfl⟩
      go_wp2_with fail
      refine C2.out.mono ?_
      rintro e w' ⟨rfl, rfl⟩
      go_wp2
      go_ret
      exact ⟨rfl, be8.out⟩

theorem walkd (v0 : Value) (a0 : List UInt8) {W : World} (w0 : Src W v0 a0) (a1 : Int) (_w1 : (Lit.int .i64 a1).wf = true) (a2 : Int) (w2 : (Lit.int .u8 a2).wf = true) (W' : World) (hW : W' = W) (ht : Tab W') :
    Calls Tryd.prog 7 #[v0, .int .i64 a1, .int .u8 a2] W' fun e w' => e = .returned (.bool true) ∧ Below W'.heap.size W' w' := by
  subst hW
  obtain ⟨A, m, c, rfl, _, _, _, R⟩ := w0
  have hb := bounds_u8 w2
  exact walk A m c a0 _ R a1 a2 hb.1 hb.2 ht

/-! The row: every input, the listed variable as the condition has it. -/
set_option linter.unusedVariables false
set_option maxRecDepth 100000 in
theorem lifted (os : Os) (started : os.Started) (H : Type) (enc : TypeId × Value → H) :
    ReturnsInHanded {} Tryd.checked os 7 .any (fun w args => (Rows.packSumsSpec.pre enc Tryd.prog Tryd.f7 [] false w args ∧ laidMetH Tryd.prog laids w) ∧ sizedMet enc Tryd.prog Tryd.f7 (OpenSpec.ofChange Rows.packSumsSpec) false w args)
      (Rows.packSumsSpec.post enc Tryd.prog Tryd.f7 false true false false) := by
  refine returnsInHanded_of_change_and (C := Tryd.checked) (X := fun w _ => laidMetH Tryd.prog laids w) (fun _ _ _ hh h => h.of_heap hh) own started (by kernel_rfl) Tryd.func7
    (ChangeSpec.witness_shaped (enc := enc) (C := Tryd.checked) (os := os) (X := fun w _ => laidMetH Tryd.prog laids w) false (World.doorLaid Tryd.prog 400 os) #[.slice none 0 0, .int .i64 0, .int .u8 0] 8 rfl (World.shaped_of_RefB (by kernel_rfl) (by kernel_rfl)) (by kernel_rfl) (by kernel_rfl) (by kernel_rfl) (door_met os _)) ?_
  intro W base args ds gs before hval0 hW _ _ hL _
  have hval : ∀ (j : Nat) t v, Tryd.f7.params[j]? = some t → args[j]? = some v → Value.okWide Tryd.prog W .any base t v := hval0
  have hW' := hW
  obtain ⟨p, q, hA0, hV, rfl, hfz, hnd⟩ := hW
  have hA : DataW.TrodAll enc Tryd.prog W 0 (fun _ => true) true Tryd.f7.params.toList args.toList ds p := hA0
  rw [Tryd.params7] at hA hval
  obtain ⟨v0, vs0, d0, ds0, p0, q0, hargs, rfl, rfl, h0, r0⟩ := trodAll_cons hA
  obtain ⟨v1, vs1, d1, ds1, p1, q1, rfl, rfl, rfl, h1, r1⟩ := trodAll_cons r0
  obtain ⟨v2, vs2, d2, ds2, p2, q2, rfl, rfl, rfl, h2, r2⟩ := trodAll_cons r1
  obtain ⟨rfl, rfl, rfl⟩ := trodAll_nil r2
  obtain rfl : args = #[v0, v1, v2] := by cases args; simp_all
  obtain ⟨rfl, rfl⟩ := trodVars_none hV
  obtain ⟨a0, w0⟩ := view_bytes (hval 0 34 v0 rfl rfl) h0
  obtain ⟨a1, rfl, rfl, rfl, w1⟩ := open_int Tryd.underlying3 (hval 1 3 v1 rfl rfl) h1
  obtain ⟨a2, rfl, rfl, rfl, w2⟩ := open_int Tryd.underlying5 (hval 2 5 v2 rfl rfl) h2
  clear hA0 hval0
  simp only [List.append_nil] at hW'
  refine (walkd v0 a0 w0 a1 w1 a2 w2 W rfl (of_laid hL)).mono fun e W' ⟨he, hb⟩ => ?_
  subst he
  exact ⟨_, rfl, post_below (pa := p0 ++ ([] ++ ([] ++ []))) (pv := []) hW' (fun _ _ _ => (trodAll_cons_mk (shut_bool Tryd.underlying4 _) trodAll_mk0)) (fun sp hsp => (trodAll_cons_mk (Trod_stays laidOut (by kernel_rfl) (of_decide_eq_true (by kernel_rfl)) h0 (fun x hx => hb.same (hW'.lt x (by simp [hx]))) (fun x hx => hsp x (by simp [hx]))) (trodAll_cons_mk (shut_int Tryd.underlying3 w1) (trodAll_cons_mk (shut_int Tryd.underlying5 w2) trodAll_mk0)))) (fun _ _ => rfl) (by simp)
    hb (ok_one (by kernel_rfl) rfl (okWide_bool_mk Tryd.underlying4 _))⟩

theorem over : Rows.packSumsRow.holds Tryd.pinned (OpenSpec.ofChange Rows.packSumsSpec) :=
  OpenClaim.holds_of_wide 7 Tryd.f7 rfl rfl rfl rfl rfl rfl rfl ⟨rfl, rfl, rfl, rfl, rfl⟩ rfl rfl rfl rfl rfl (by kernel_rfl) Tryd.func7 (by kernel_rfl)
    (of_decide_eq_true (by kernel_rfl)) (by unfold Func.isWrapper; first | (rw [if_pos (by decide +kernel)]; kernel_rfl) | (rw [if_neg (by decide +kernel)]; exact ⟨rfl, rfl⟩))
    (fun os started H enc _ => lifted os started H enc)

/-- The tied card. -/
theorem proved : Rows.PackSumsCardSaid :=
  Claim7.holds_tied_plain_at .later [] [.data] true _ false
    over (fun _ h => by cases h) (by kernel_rfl) (fun _ h => by cases h) packSums_row_tie rfl ⟨rfl, rfl⟩ (by kernel_rfl) rfl
    (fun f fn hf hfn => by
      obtain rfl : f = 7 := Option.some.inj ((show Tryd.prog.funcNamed "sojourn/sojournlaw1.PackSums" = some 7 by kernel_rfl).symm.trans hf) |>.symm
      obtain rfl : fn = Tryd.f7 := (Option.some.inj (Tryd.func7.symm.trans hfn)).symm
      exact ⟨by kernel_rfl, fun j t ht => by
        rw [Tryd.params7] at ht
        have hm : t ∈ [34, 3, 5] := by simpa using Array.mem_of_getElem? ht
        have hall : ([34, 3, 5].all fun u => !Tryd.prog.wantsStandIn u) = true := by kernel_rfl
        exact (show Tryd.prog.wantsStandIn t = false by simpa using List.all_eq_true.1 hall t hm)⟩)
    (by kernel_rfl)
#print axioms proved

end Go.Proofs.YtfdgjdakaibifaaDoor.packSums
