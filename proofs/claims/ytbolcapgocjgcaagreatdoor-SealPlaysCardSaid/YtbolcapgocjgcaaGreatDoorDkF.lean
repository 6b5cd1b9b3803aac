/- New, Append, Sync, Cut, Rename, Remove. -/
import Derived.Test.YtbolcapgocjgcaaGreatDoorDkE
import Derived.Deep.QuietTactic
import Derived.BigQuiet
namespace Go.Proofs.YtbolcapgocjgcaaGreatDoor
set_option maxRecDepth 100000
open Go.RowKit
open Go.Proofs.YtbolcapgocjgcaaGreatDoor.Pk
namespace Dk

abbrev St := List (Bs × Bs × Nat)
def used (L : St) : Nat := sum (fun a => a.1.length) L
def good (n : Bs) : Bool := decide (1 ≤ n.length) && decide (n.length ≤ 20)
def sApp (room : Nat) (L : St) (n b : Bs) : Int × St :=
  if good n = false then (1, L) else if room - used L < b.length then (4, L) else (0, put n ((look n L).elim [] (·.1) ++ b, (look n L).elim 0 (·.2)) L)
def sSync (L : St) (n : Bs) : Int × St := (look n L).elim (5, L) fun a => (0, put n (a.1, a.1.length) L)
def sCut (L : St) (n : Bs) (k : Int) : Int × St := (look n L).elim (5, L) fun a => if k < 0 ∨ (a.1.length : Int) < k then (3, L) else (0, put n (a.1.take k.toNat, k.toNat) L)
def sRen (L : St) (n m : Bs) : Int × St := (look n L).elim (5, L) fun a => if good m = false then (1, L) else (0, put m a (del n L))
def sRem (L : St) (n : Bs) : Int × St := (look n L).elim (5, L) fun _ => (0, del n L)

theorem used_abs (l : Fls) : used (vals abs l) = sum use l := sum_vals abs _ l
theorem look_abs (n : Bs) (l : Fls) : look n (vals abs l) = (look n l).map abs := look_vals abs n l

theorem PutTo.dto {n : Bs} {f : Fil} {w w1 w' : World} {p room : Nat} {l : Fls} {fp : Nat → Prop} (h : PutTo n f w1 p room l (gr fp w w1) w') (hk : Kp fp w w1) : DTo w p room fp (put n (abs f) (vals abs l)) w' := by
  obtain ⟨mo, h1, h2⟩ := h
  rw [gr_gr hk.size h2.size] at h1
  exact ⟨⟨mo, _, h1, (put_vals abs n f l).symm⟩, hk.trans h2⟩

/-! ### New -/
theorem dsk_new (w : World) (room : Nat) (h : room ≤ 1000000) : Dsk none (w.alloc (.cells #[.int .i64 room, .int .i64 0, .map none] 64)) w.heap.size room none [] (fun g => g = w.heap.size) :=
  ⟨heap_alloc_new _ _, .inl ⟨rfl, rfl⟩, rise_nil, rfl, fun m e => (nomatch e), fun q hq => (nomatch hq), fun q hq => (nomatch hq), fun q hq => (nomatch hq), Nat.zero_le _, h, fun g hg => by subst hg; simp⟩
/-- What New answers. -/
def NewTo (w : World) (room : Nat) (e : Ending) (w' : World) : Prop :=
  ∃ p, e = .returned (.tuple #[.pointer (some ⟨p, 0, none⟩), .int .i64 0]) ∧ w.heap.size ≤ p ∧ Disk w' p room [] (fun g => g = p) ∧ Below w.heap.size w w'
set_option maxHeartbeats 400000 in
theorem new_no (w : World) (room : Int) (h : ¬ (0 ≤ room ∧ room ≤ 1000000)) : Calls Tryz.prog 4 #[.int .i64 room] w fun e w' => e = .returned (.tuple #[.pointer none, .int .i64 1]) ∧ w = w' := by
  by_cases h0 : room < 0
  · go_enter Tryz.func4, Tryz.ntmps4
    go_wp2
    go_ret2
    exact ⟨rfl, rfl⟩
  · have h1 : 1000000 < room := by omega
    have e0 : decide (room < 0) = false := decide_eq_false h0
    have e1 : decide (1000000 < room) = true := decide_eq_true h1
    clear h h0
    go_enter Tryz.func4, Tryz.ntmps4
    go_wp2
    go_ret2
    exact ⟨rfl, rfl⟩
set_option maxHeartbeats 400000 in
theorem new_yes (w : World) (room : Nat) (h : room ≤ 1000000) : Calls Tryz.prog 4 #[.int .i64 room] w (NewTo w room) := by
  have D := Lib.hid (dsk_new w room h)
  have e0 : decide ((room : Int) < 0) = false := decide_eq_false (by omega)
  have e1 : decide (1000000 < (room : Int)) = false := decide_eq_false (by omega)
  clear h
  go_enter Tryz.func4, Tryz.ntmps4
  go_wp2
  go_ret2
  exact ⟨_, rfl, Nat.le_refl _, ⟨none, [], D.out, rfl⟩, (Below.refl _ _).alloc (Nat.le_refl _) _⟩

/-! ### Sync -/
set_option maxHeartbeats 400000 in
theorem sync_none (w : World) (s : ByteArray) : Calls Tryz.prog 40 #[.pointer none, .string s] w fun e w' => e = .returned (.int .i64 5) ∧ Below w.heap.size w w' := by
  have F := Lib.hid (find_none w s)
  go_enter Tryz.func40, Tryz.ntmps40
  go_wp2_with fail
  refine F.out.mono ?_
  rintro e w1 ⟨rfl, hb⟩
  have B : Hid (Below w.heap.size w (w1.alloc (.cells #[.slice none 0 0, .int .i64 0] 88))) := hb.alloc hb.size _
  clear hb F
  unfold nofile
  go_wp2
  go_ret
  exact ⟨rfl, B.out⟩
set_option maxHeartbeats 800000 in
theorem sync_any (w : World) (p room : Nat) (L : St) (fp : Nat → Prop) (s : ByteArray) (D : Disk w p room L fp) (hs : s.size ≤ maxLen) (hl : L.length ≤ 1000000) :
    Calls Tryz.prog 40 #[.pointer (some ⟨p, 0, none⟩), .string s] w fun e w' => e = .returned (.int .i64 (sSync L (nm s)).1) ∧ DTo w p room fp (sSync L (nm s)).2 w' := by
  obtain ⟨mo, l, D, rfl⟩ := D
  rw [len_vals] at hl
  have F := find_any w p room mo l fp s D hs
  unfold sSync
  rw [look_abs]
  cases hk : look (nm s) l with
  | none =>
    rw [hk] at F
    replace F := Lib.hid F
    have D' := Lib.hid D
    clear hk D
    simp only [Option.elim, Option.map]
    go_enter Tryz.func40, Tryz.ntmps40
    go_wp2_with fail
    refine F.out.mono ?_
    rintro e w1 ⟨rfl, hb⟩
    have B : Hid (Below w.heap.size w (w1.alloc (.cells #[.slice none 0 0, .int .i64 0] 88))) := hb.alloc hb.size _
    clear hb F
    unfold nofile
    simp only [Option.elim, Option.isSome]
    go_wp2
    go_ret
    exact ⟨rfl, DTo.of_below ⟨mo, l, D'.out, rfl⟩ B.out⟩
  | some f =>
    have hm := look_mem hk
    obtain ⟨⟨A, c, hv, h1, h2, h3⟩, hn20, _⟩ := D.head _ hm
    have hrow := (D.rows _ hm (by simp)).1
    have hin := (D.rows _ hm (by simp)).2
    simp only at hv h1 hn20
    rw [hk] at F
    simp only [Option.elim, Option.isSome, cell] at F
    rw [hv] at F
    have hsum := sum_put use (nm s) (⟨f.v, f.s, f.s.length⟩ : Fil) D.rise
    rw [hk] at hsum
    have hfit := D.fits
    have G : ∀ w1 w2 : World, Below w.heap.size w w1 → Hid (Dsk (some (nm s)) w1 p room mo l (gr fp w w1) ∧ Fits (nm s) w1 l room (gr fp w w1) ⟨f.v, f.s, f.s.length⟩) := fun w1 _ hb =>
      ⟨(D.grow hb).some_ _, ⟨own_same hrow fun g hg => hb.block g (lt_some (own_block hrow hg).2.choose_spec), fun g hg => .inl (hin g hg), fun q hq hne g hg => D.apart _ hm q hq (fun e => hne e.symm) (by simp) (by simp) g hg, hn20, Nat.le_refl _, by simp only [Option.elim, use] at hsum; omega⟩⟩
    have hG : ∀ w1 : World, Below w.heap.size w w1 → Calls Tryz.prog 46 #[.pointer (some ⟨p, 0, none⟩), .string s, .agg #[.slice A f.s.length c, .int .i64 (f.s.length : Nat)]] w1 fun e w' => e = .returned (.tuple #[]) ∧ DTo w p room fp (put (nm s) (f.s, f.s.length) (vals abs l)) w' := fun w1 hb => by
      obtain ⟨g1, g2⟩ := (G w1 w1 hb).out
      have := put_any s w1 p room mo l (gr fp w w1) ⟨f.v, f.s, f.s.length⟩ g1 g2 hl
      simp only [hv] at this
      exact this.mono fun e w' h => ⟨h.1, h.2.dto (.of_below hb)⟩
    replace hG := Lib.hid hG
    replace F := Lib.hid F
    simp only [Option.elim, Option.map, abs]
    generalize f.s = bs at *
    generalize f.k = k at *
    clear hsum hfit G hv hrow hin hm D hk h1 h2 h3
    go_enter Tryz.func40, Tryz.ntmps40
    go_wp2_with fail
    refine F.out.mono ?_
    rintro e w1 ⟨rfl, hb⟩
    have B : Hid (Below w.heap.size w (w1.alloc (.cells #[.slice A bs.length c, .int .i64 (bs.length : Nat)] 88))) := hb.alloc hb.size _
    have C := Lib.hid (hG.out _ B.out)
    clear hb F B hG
    go_wp2_with fail
    refine C.out.mono ?_
    rintro e w2 ⟨rfl, hd⟩
    replace hd := Lib.hid hd
    clear C
    go_wp2
    go_ret
    exact ⟨rfl, hd.out⟩

/-! ### Cut -/
theorem fits_new {n : Bs} {w w1 : World} {p room : Nat} {mo : Option Nat} {l : Fls} {fp : Nat → Prop} {v : Value} {bs : Bs} {k : Nat} (D : Dsk none w p room mo l fp) (hb : Below w.heap.size w w1) (O : w1.ownsRow w.heap.size 5 1 v bs.length (u8s bs))
    (hn : n.length ≤ 20) (hk : k ≤ bs.length) (hr : sum use l + bs.length ≤ room + (look n l).elim 0 use) : Dsk (some n) w1 p room mo l (gr fp w w1) ∧ Fits n w1 l room (gr fp w w1) ⟨v, bs, k⟩ := by
  have hsum : sum use (put n (⟨v, bs, k⟩ : Fil) l) + (look n l).elim 0 use = sum use l + bs.length := sum_put use n (⟨v, bs, k⟩ : Fil) D.rise
  refine ⟨(D.grow hb).some_ _, ⟨own_mono O (Nat.zero_le _), fun g hg => ?_, fun q hq hne g hg e => ?_, hn, hk, ?_⟩⟩
  · obtain ⟨h, cur, hc⟩ := own_block O hg
    exact .inr ⟨h, lt_some hc⟩
  · obtain ⟨h, _⟩ := own_block O hg
    have := D.size _ ((D.rows q hq (by simp)).2 g e)
    omega
  · omega
set_option maxHeartbeats 400000 in
theorem cut_none (w : World) (s : ByteArray) (k : Int) : Calls Tryz.prog 26 #[.pointer none, .string s, .int .i64 k] w fun e w' => e = .returned (.int .i64 5) ∧ Below w.heap.size w w' := by
  have F := Lib.hid (find_none w s)
  go_enter Tryz.func26, Tryz.ntmps26
  go_wp2_with fail
  refine F.out.mono ?_
  rintro e w1 ⟨rfl, hb⟩
  have B : Hid (Below w.heap.size w (w1.alloc (.cells #[.slice none 0 0, .int .i64 0] 88))) := hb.alloc hb.size _
  clear hb F
  unfold nofile
  go_wp2
  go_ret
  exact ⟨rfl, B.out⟩
set_option maxHeartbeats 800000 in
theorem cut_any (w : World) (p room : Nat) (L : St) (fp : Nat → Prop) (s : ByteArray) (k : Int) (D : Disk w p room L fp) (hs : s.size ≤ maxLen) (hl : L.length ≤ 1000000) :
    Calls Tryz.prog 26 #[.pointer (some ⟨p, 0, none⟩), .string s, .int .i64 k] w fun e w' => e = .returned (.int .i64 (sCut L (nm s) k).1) ∧ DTo w p room fp (sCut L (nm s) k).2 w' := by
  obtain ⟨mo, l, D, rfl⟩ := D
  rw [len_vals] at hl
  have F := find_any w p room mo l fp s D hs
  unfold sCut
  rw [look_abs]
  cases hk : look (nm s) l with
  | none =>
    rw [hk] at F
    replace F := Lib.hid F
    have D' := Lib.hid D
    clear hk D
    simp only [Option.elim, Option.map]
    go_enter Tryz.func26, Tryz.ntmps26
    go_wp2_with fail
    refine F.out.mono ?_
    rintro e w1 ⟨rfl, hb⟩
    have B : Hid (Below w.heap.size w (w1.alloc (.cells #[.slice none 0 0, .int .i64 0] 88))) := hb.alloc hb.size _
    clear hb F
    unfold nofile
    simp only [Option.elim, Option.isSome]
    go_wp2
    go_ret
    exact ⟨rfl, DTo.of_below ⟨mo, l, D'.out, rfl⟩ B.out⟩
  | some f =>
    have hm := look_mem hk
    obtain ⟨⟨A, c, hv, h1, h2, h3⟩, hn20, hks⟩ := D.head _ hm
    have hrow := (D.rows _ hm (by simp)).1
    have hin := (D.rows _ hm (by simp)).2
    simp only at hv h1 hn20 hks
    rw [hk] at F
    simp only [Option.elim, Option.isSome, cell] at F
    rw [hv] at F
    have hfit := D.fits
    have hz : f.s.length ≤ 1000000 := Nat.le_trans (Nat.le_trans (le_sum use hm) D.fits) D.most
    simp only [Option.elim, Option.map, abs]
    by_cases hbad : k < 0 ∨ (f.s.length : Int) < k
    · rw [if_pos hbad]
      replace F := Lib.hid F
      have D' := Lib.hid D
      clear hm hk hv hrow hin hfit hz h1 h2 h3 hks D
      generalize f.s = bs at *
      generalize f.k = ky at *
      by_cases h0 : k < 0
      · have e0 : decide (k < 0) = true := decide_eq_true h0
        clear hbad h0
        go_enter Tryz.func26, Tryz.ntmps26
        go_wp2_with fail
        refine F.out.mono ?_
        rintro e w1 ⟨rfl, hb⟩
        have B : Hid (Below w.heap.size w (w1.alloc (.cells #[.slice A bs.length c, .int .i64 ky] 88))) := hb.alloc hb.size _
        clear hb F
        go_wp2
        go_ret
        exact ⟨rfl, DTo.of_below ⟨mo, l, D'.out, rfl⟩ B.out⟩
      · have e0 : decide (k < 0) = false := decide_eq_false h0
        have e1 : decide ((bs.length : Int) < k) = true := decide_eq_true (by omega)
        clear hbad h0
        go_enter Tryz.func26, Tryz.ntmps26
        go_wp2_with fail
        refine F.out.mono ?_
        rintro e w1 ⟨rfl, hb⟩
        have B : Hid (Below w.heap.size w (w1.alloc (.cells #[.slice A bs.length c, .int .i64 ky] 88))) := hb.alloc hb.size _
        clear hb F
        go_wp2
        go_ret
        exact ⟨rfl, DTo.of_below ⟨mo, l, D'.out, rfl⟩ B.out⟩
    · rw [if_neg hbad]
      obtain ⟨j, rfl⟩ : ∃ j : Nat, k = j := ⟨k.toNat, by omega⟩
      have hj : j ≤ f.s.length := by omega
      have hlen : (f.s.take j).length = j := by rw [List.length_take]; omega
      rw [hv] at hrow
      have R : Rb w (Row w) A f.s.length f.s := (Rb.of_own hrow).keep (fun _ _ => rfl) (fun _ h => h.2)
      have hC : ∀ w1 : World, Below w.heap.size w w1 → Calls Tryz.prog 47 #[.agg #[.slice A f.s.length c, .int .i64 f.k], .int .i64 j] w1 fun e w' => ∃ v, e = .returned (.agg #[v, .int .i64 j]) ∧ w'.ownsRow w1.heap.size 5 1 v j (u8s (f.s.take j)) ∧ Below w1.heap.size w1 w' := fun w1 hb =>
        (first_any w1 A _ c j _ f.s (R.row fun g hg => hb.block g hg.lt) hj hz h1 h2 h3).mono fun e w' h => by unfold FirstTo at h; rw [hlen] at h; exact h
      have hG : ∀ (w1 : World) (v : Value), Below w.heap.size w w1 → w1.ownsRow w.heap.size 5 1 v j (u8s (f.s.take j)) →
          Calls Tryz.prog 46 #[.pointer (some ⟨p, 0, none⟩), .string s, .agg #[v, .int .i64 j]] w1 fun e w' => e = .returned (.tuple #[]) ∧ DTo w p room fp (put (nm s) (f.s.take j, j) (vals abs l)) w' := fun w1 v hb O => by
        obtain ⟨g1, g2⟩ := fits_new (n := nm s) (k := j) D hb (show w1.ownsRow _ _ _ _ (f.s.take j).length _ by rw [hlen]; exact O) hn20 (by omega) (by rw [hk]; simp only [Option.elim, use]; omega)
        exact (put_any s w1 p room mo l (gr fp w w1) ⟨v, f.s.take j, j⟩ g1 g2 hl).mono fun e w' h => ⟨h.1, h.2.dto (.of_below hb)⟩
      have e0 : decide ((j : Int) < 0) = false := decide_eq_false (by omega)
      have e1 : decide (f.s.length < j) = false := decide_eq_false (by omega)
      have ej : ((j : Int)).toNat = j := rfl
      rw [ej]
      replace hC := Lib.hid hC
      replace hG := Lib.hid hG
      replace F := Lib.hid F
      clear hlen R hrow hin hm hk hv hfit hz h1 h2 h3 hks hbad hj D hl hs ej
      generalize f.s = bs at *
      generalize f.k = ky at *
      go_enter Tryz.func26, Tryz.ntmps26
      go_wp2_with fail
      refine F.out.mono ?_
      rintro e w1 ⟨rfl, hb⟩
      have B : Hid (Below w.heap.size w (w1.alloc (.cells #[.slice A bs.length c, .int .i64 ky] 88))) := hb.alloc hb.size _
      have C := Lib.hid (hC.out _ B.out)
      clear hb F hC
      go_wp2_with fail
      refine C.out.mono ?_
      rintro e w2 ⟨v, rfl, hown, hb2⟩
      have G := Lib.hid (hG.out w2 v (B.out.trans (hb2.mono B.out.size)) (own_mono hown B.out.size))
      clear hown hb2 C B hG
      go_wp2_with fail
      refine G.out.mono ?_
      rintro e w3 ⟨rfl, hd⟩
      replace hd := Lib.hid hd
      clear G
      go_wp2
      go_ret
      exact ⟨rfl, hd.out⟩

/-! ### Remove -/
theorem some_map {w : World} {p room : Nat} {mo : Option Nat} {l : Fls} {fp : Nat → Prop} {n : Bs} {f : Fil} (D : Dsk none w p room mo l fp) (h : (n, f) ∈ l) : ∃ m, mo = some m := by
  rcases D.map with ⟨_, e⟩ | ⟨m, _, e, _⟩
  · rw [e] at h; cases h
  · exact ⟨m, e⟩
set_option maxHeartbeats 400000 in
theorem remove_none (w : World) (s : ByteArray) : Calls Tryz.prog 24 #[.pointer none, .string s] w fun e w' => e = .returned (.int .i64 5) ∧ Below w.heap.size w w' := by
  have F := Lib.hid (find_none w s)
  go_enter Tryz.func24, Tryz.ntmps24
  go_wp2_with fail
  refine F.out.mono ?_
  rintro e w1 ⟨rfl, hb⟩
  have B : Hid (Below w.heap.size w (w1.alloc (.cells #[.slice none 0 0, .int .i64 0] 88))) := hb.alloc hb.size _
  clear hb F
  unfold nofile
  go_wp2
  go_ret
  exact ⟨rfl, B.out⟩
set_option maxHeartbeats 800000 in
theorem remove_any (w : World) (p room : Nat) (L : St) (fp : Nat → Prop) (s : ByteArray) (D : Disk w p room L fp) (hs : s.size ≤ maxLen) (hl : L.length ≤ 1000000) :
    Calls Tryz.prog 24 #[.pointer (some ⟨p, 0, none⟩), .string s] w fun e w' => e = .returned (.int .i64 (sRem L (nm s)).1) ∧ DTo w p room fp (sRem L (nm s)).2 w' := by
  obtain ⟨mo, l, D, rfl⟩ := D
  rw [len_vals] at hl
  have F := find_any w p room mo l fp s D hs
  unfold sRem
  rw [look_abs]
  cases hk : look (nm s) l with
  | none =>
    rw [hk] at F
    replace F := Lib.hid F
    have D' := Lib.hid D
    clear hk D
    simp only [Option.elim, Option.map]
    go_enter Tryz.func24, Tryz.ntmps24
    go_wp2_with fail
    refine F.out.mono ?_
    rintro e w1 ⟨rfl, hb⟩
    have B : Hid (Below w.heap.size w (w1.alloc (.cells #[.slice none 0 0, .int .i64 0] 88))) := hb.alloc hb.size _
    clear hb F
    unfold nofile
    simp only [Option.elim, Option.isSome]
    go_wp2
    go_ret
    exact ⟨rfl, DTo.of_below ⟨mo, l, D'.out, rfl⟩ B.out⟩
  | some f =>
    have hm := look_mem hk
    obtain ⟨⟨A, c, hv, h1, h2, h3⟩, hn20, hks⟩ := D.head _ hm
    have hrow := (D.rows _ hm (by simp)).1
    have hin := (D.rows _ hm (by simp)).2
    simp only at hv h1 hn20 hks
    rw [hk] at F
    simp only [Option.elim, Option.isSome, cell] at F
    rw [hv] at F
    have hfit := D.fits
    have hz : f.s.length ≤ 1000000 := Nat.le_trans (Nat.le_trans (le_sum use hm) D.fits) D.most
    obtain ⟨m, rfl⟩ := some_map D hm
    simp only [Option.elim, Option.map]
    have hG : ∀ w1 : World, Below w.heap.size w w1 → Calls Tryz.prog 51 #[.pointer (some ⟨p, 0, none⟩), .string s] w1 fun e w' => e = .returned (.tuple #[]) ∧ DTo w p room fp (del (nm s) (vals abs l)) w' := fun w1 hb =>
      (drop_any s w1 p room m l (gr fp w w1) (D.grow hb) hs).mono fun e w' h => by
        obtain ⟨e1, d1, d2, _⟩ := h
        refine ⟨e1, ⟨⟨some m, _, ?_, (del_vals abs (nm s) l).symm⟩, Kp.trans (.of_below hb) d2⟩⟩
        exact d1.mono (fun g hg => by rw [← gr_gr hb.size d2.size]; exact .inl hg) (fun g hg => by
          rw [← gr_gr hb.size d2.size] at hg
          rcases hg with hg | ⟨_, hg⟩
          · exact d1.size g hg
          · exact hg)
    replace hG := Lib.hid hG
    replace F := Lib.hid F
    clear hm hk hv hrow hin hfit hz h1 h2 h3 hks D hs
    generalize f.s = bs at *
    generalize f.k = ky at *
    go_enter Tryz.func24, Tryz.ntmps24
    go_wp2_with fail
    refine F.out.mono ?_
    rintro e w1 ⟨rfl, hb⟩
    have B : Hid (Below w.heap.size w (w1.alloc (.cells #[.slice A bs.length c, .int .i64 ky] 88))) := hb.alloc hb.size _
    have G := Lib.hid (hG.out _ B.out)
    clear hb F hG B
    go_wp2_with fail
    refine G.out.mono ?_
    rintro e w3 ⟨rfl, hd⟩
    replace hd := Lib.hid hd
    clear G
    go_wp2
    go_ret
    exact ⟨rfl, hd.out⟩
end Dk
end Go.Proofs.YtbolcapgocjgcaaGreatDoor
