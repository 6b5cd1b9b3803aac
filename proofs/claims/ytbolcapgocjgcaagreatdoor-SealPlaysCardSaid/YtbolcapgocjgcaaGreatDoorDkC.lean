/- Used, Synced, Read, Names. -/
import Derived.Test.YtbolcapgocjgcaaGreatDoorDkB
import Derived.Sort.OwnSorted
import Derived.Shelf.AbstractIn
namespace Go.Proofs.YtbolcapgocjgcaaGreatDoor
set_option maxRecDepth 100000
open Go.RowKit
open Go.Proofs.YtbolcapgocjgcaaGreatDoor.Pk
namespace Dk

theorem own_mono {w : World} {e : TypeId} {n base base' : Nat} {v : Value} {xs : List Value} (h : w.ownsRow base e 1 v n xs) (hb : base' ≤ base) : w.ownsRow base' e 1 v n xs := by
  refine ⟨h.1, ?_⟩
  rcases h.2 with h0 | ⟨g, cap, cur, hv, hg, hh, h2⟩
  · exact .inl h0
  · exact .inr ⟨g, cap, cur, hv, Nat.le_trans hb hg, hh, h2⟩
set_option maxHeartbeats 400000 in
theorem used_none (w : World) : Calls Tryz.prog 60 #[.pointer none] w fun e w' => e = .returned (.int .i64 0) ∧ w = w' := by
  go_enter Tryz.func60, Tryz.ntmps60
  go_wp2
  go_ret
  exact ⟨rfl, rfl⟩
set_option maxHeartbeats 400000 in
theorem used_dsk {x : Option Bs} (w : World) (p room : Nat) (mo : Option Nat) (l : Fls) (fp : Nat → Prop) (D : Dsk x w p room mo l fp) :
    Calls Tryz.prog 60 #[.pointer (some ⟨p, 0, none⟩)] w fun e w' => e = .returned (.int .i64 (sum use l : Nat)) ∧ w = w' := by
  have c1 : w.cell? ⟨p, 1, none⟩ = some (.int .i64 (sum use l : Nat)) := one_at (i := 1) D.cells
  clear D
  go_enter Tryz.func60, Tryz.ntmps60
  go_wp2
  go_ret
  exact ⟨rfl, rfl⟩
set_option maxHeartbeats 400000 in
theorem synced_none (w : World) (s : ByteArray) : Calls Tryz.prog 22 #[.pointer none, .string s] w fun e w' => e = .returned (.int .i64 0) ∧ Below w.heap.size w w' := by
  have F := Lib.hid (find_none w s)
  go_enter Tryz.func22, Tryz.ntmps22
  go_wp2_with fail
  refine F.out.mono ?_
  rintro e w1 ⟨rfl, hb⟩
  have B : Hid (Below w.heap.size w (w1.alloc (.cells #[.slice none 0 0, .int .i64 0] 88))) := hb.alloc hb.size _
  clear hb F
  unfold nofile
  go_wp2
  go_ret
  exact ⟨rfl, B.out⟩
set_option maxHeartbeats 400000 in
theorem synced_dsk {x : Option Bs} (w : World) (p room : Nat) (mo : Option Nat) (l : Fls) (fp : Nat → Prop) (s : ByteArray) (D : Dsk x w p room mo l fp) (hs : s.size ≤ maxLen) :
    Calls Tryz.prog 22 #[.pointer (some ⟨p, 0, none⟩), .string s] w fun e w' => e = .returned (.int .i64 ((look (nm s) l).elim 0 Fil.k : Nat)) ∧ Below w.heap.size w w' := by
  have F := find_any w p room mo l fp s D hs
  obtain ⟨A, c, hv, _, _, _⟩ := look_form D (nm s)
  rw [hv] at F
  generalize (look (nm s) l).elim 0 use = n at F
  generalize (((look (nm s) l).elim 0 Fil.k : Nat) : Int) = k at F
  generalize (look (nm s) l).isSome = b at F
  replace F := Lib.hid F
  clear D hv
  go_enter Tryz.func22, Tryz.ntmps22
  go_wp2_with fail
  refine F.out.mono ?_
  rintro e w1 ⟨rfl, hb⟩
  have B : Hid (Below w.heap.size w (w1.alloc (.cells #[.slice A n c, .int .i64 k] 88))) := hb.alloc hb.size _
  clear hb F
  go_wp2
  go_ret
  exact ⟨rfl, B.out⟩

/-- What Read answers. -/
def ReadTo (w : World) (q : Option (Bs × Nat)) (e : Ending) (w' : World) : Prop :=
  (q = none ∧ e = .returned (.tuple #[.slice none 0 0, .int .i64 5]) ∧ Below w.heap.size w w') ∨
  (∃ s k v, q = some (s, k) ∧ e = .returned (.tuple #[v, .int .i64 0]) ∧ w'.ownsRow w.heap.size 5 1 v s.length (u8s s) ∧ Below w.heap.size w w')
set_option maxHeartbeats 400000 in
theorem read_none (w : World) (s : ByteArray) : Calls Tryz.prog 20 #[.pointer none, .string s] w (ReadTo w none) := by
  have F := Lib.hid (find_none w s)
  go_enter Tryz.func20, Tryz.ntmps20
  go_wp2_with fail
  refine F.out.mono ?_
  rintro e w1 ⟨rfl, hb⟩
  have B : Hid (Below w.heap.size w (w1.alloc (.cells #[.slice none 0 0, .int .i64 0] 88))) := hb.alloc hb.size _
  clear hb F
  unfold nofile
  go_wp2
  go_ret2
  exact .inl ⟨rfl, rfl, B.out⟩
set_option maxHeartbeats 400000 in
theorem read_dsk (w : World) (p room : Nat) (mo : Option Nat) (l : Fls) (fp : Nat → Prop) (s : ByteArray) (D : Dsk none w p room mo l fp) (hs : s.size ≤ maxLen) :
    Calls Tryz.prog 20 #[.pointer (some ⟨p, 0, none⟩), .string s] w (ReadTo w ((look (nm s) l).map abs)) := by
  have F := find_any w p room mo l fp s D hs
  cases hl : look (nm s) l with
  | none =>
    rw [hl] at F
    replace F := Lib.hid F
    clear hl D
    go_enter Tryz.func20, Tryz.ntmps20
    go_wp2_with fail
    refine F.out.mono ?_
    rintro e w1 ⟨rfl, hb⟩
    have B : Hid (Below w.heap.size w (w1.alloc (.cells #[.slice none 0 0, .int .i64 0] 88))) := hb.alloc hb.size _
    clear hb F
    unfold nofile
    simp only [Option.elim, Option.isSome]
    go_wp2
    go_ret2
    exact .inl ⟨rfl, rfl, B.out⟩
  | some f =>
    have hm := look_mem hl
    obtain ⟨⟨A, c, hv, h1, h2, h3⟩, _⟩ := D.head _ hm
    have hr := (D.rows _ hm (by simp)).1
    have hz : f.s.length ≤ 1000000 := Nat.le_trans (Nat.le_trans (le_sum use hm) D.fits) D.most
    simp only at hv h1
    rw [hv] at hr
    rw [hl] at F
    simp only [Option.elim, Option.isSome, cell] at F
    rw [hv] at F
    obtain ⟨bs, hbs⟩ : ∃ z, z = f.s := ⟨_, rfl⟩
    obtain ⟨k, hk⟩ : ∃ z, z = f.k := ⟨_, rfl⟩
    have hR : Hid (ReadTo w ((some f).map abs) = ReadTo w (some (bs, k))) := by unfold Hid; rw [hbs, hk]; rfl
    rw [← hbs] at F hr hz h1
    rw [← hk] at F
    have hR' := hR.out
    rw [hR']
    clear hR hR' hbs hk hl hm D hv
    have R : Hid (Rb w (Row w) A bs.length bs) := (Rb.of_own hr).keep (fun _ _ => rfl) (fun _ h => h.2)
    replace F := Lib.hid F
    clear hr
    go_enter Tryz.func20, Tryz.ntmps20
    go_wp2_with fail
    refine F.out.mono ?_
    rintro e w1 ⟨rfl, hb⟩
    have B : Hid (Below w.heap.size w (w1.alloc (.cells #[.slice A bs.length c, .int .i64 k] 88))) := hb.alloc hb.size _
    have C := Lib.hid (clone_any (w1.alloc (.cells #[.slice A bs.length c, .int .i64 k] 88)) A bs.length c bs (R.out.row fun g hg => B.out.block g hg.lt) (fun g hg => hg.lt) (by omega) h3)
    clear hb F R
    go_wp2_with fail
    refine C.out.mono ?_
    rintro e w2 ⟨v, rfl, hown, hb2⟩
    have B2 : Hid (Below w.heap.size w w2) := B.out.trans (hb2.mono B.out.size)
    have O : Hid (w2.ownsRow w.heap.size 5 1 v bs.length (u8s bs)) := own_mono hown B.out.size
    clear hown hb2 C B
    go_wp2
    go_ret2
    exact .inr ⟨bs, k, v, rfl, rfl, O.out, B2.out⟩

/-- What Names answers. -/
def NamesTo (w : World) (ns : List Bs) (e : Ending) (w' : World) : Prop :=
  ∃ v, e = .returned v ∧ w'.ownsRow w.heap.size 9 1 v ns.length (ns.map Go.Proofs.encStr) ∧ Below w.heap.size w w'
set_option maxHeartbeats 400000 in
theorem names_none (w : World) : Calls Tryz.prog 45 #[.pointer none] w (NamesTo w []) := by
  go_enter Tryz.func45, Tryz.ntmps45
  go_wp2
  go_ret
  exact ⟨_, rfl, World.ownsRow_nil _ _ _ _, Below.refl _ _⟩
set_option maxHeartbeats 1000000 in
theorem names_dsk {x : Option Bs} (w : World) (p room : Nat) (mo : Option Nat) (l : Fls) (fp : Nat → Prop) (D : Dsk x w p room mo l fp) (hl : l.length ≤ 1000000) :
    Calls Tryz.prog 45 #[.pointer (some ⟨p, 0, none⟩)] w (NamesTo w (l.map (·.1))) := by
  have c2 : w.cell? ⟨p, 2, none⟩ = some (.map mo) := one_at (i := 2) D.cells
  rcases D.map with ⟨rfl, rfl⟩ | ⟨m, n, rfl, hown⟩
  · refine (callsIn_wide (n := 6)).1 ?_
    have cS := Lib.hid (Tryz.slices_Sorted_keys_nil_68_69 w)
    clear D
    have hfK : Fence.wide.fn 69 := trivial
    have hfS : Fence.wide.fn 68 := trivial
    refine callsIn_of_wp Tryz.func45 rfl trivial ?_ rfl
    simp only [Tryz.ntmps45, List.size_toArray, List.length_cons, List.length_nil, Nat.reduceAdd, Nat.reduceSub, Array.replicate_succ, Array.replicate_zero, List.push_toArray, List.append_toArray, List.nil_append, List.cons_append]
    gi_wp2_with (first
      | (gi_at_call 69; refine (Tryz.maps_Keys_69 _ _).mono ?_; rintro e w' ⟨rfl, rfl⟩)
      | (gi_at_call 68; refine cS.out.mono ?_; rintro e w' ⟨v, ss, rfl, rfl, hrow, hnil, hb⟩))
    go_ret
    exact ⟨v, rfl, by simpa using own_mono hrow (base' := w.heap.size) (by simp), ((Below.refl _ w).alloc (Nat.le_refl _) _).trans (hb.mono (by simp))⟩
  · have hz := dat_size cell l
    have cS := Lib.hid (Tryz.slices_Sorted_keys_68_69 m n (dat cell l) Rdv w hown (by rw [hz]; unfold maxLen; omega) (by rw [hz]; omega))
    have ks := Lib.hid (dat_keys cell D.rise)
    clear D hown hz
    refine (callsIn_wide (n := 6)).1 ?_
    have hfK : Fence.wide.fn 69 := trivial
    have hfS : Fence.wide.fn 68 := trivial
    refine callsIn_of_wp Tryz.func45 rfl trivial ?_ rfl
    simp only [Tryz.ntmps45, List.size_toArray, List.length_cons, List.length_nil, Nat.reduceAdd, Nat.reduceSub, Array.replicate_succ, Array.replicate_zero, List.push_toArray, List.append_toArray, List.nil_append, List.cons_append]
    gi_wp2_with (first
      | (gi_at_call 69; refine (Tryz.maps_Keys_69 _ _).mono ?_; rintro e w' ⟨rfl, rfl⟩)
      | (gi_at_call 68; refine cS.out.mono ?_; rintro e w' ⟨v, ss, rfl, hS, hrow, hnil, hb⟩))
    go_ret
    have e1 : ss.mergeSort leB = l.map (·.1) := (mergeSort_of_perm hS).trans ks.out.2
    have e2 : ss.length = (l.map (·.1)).length := by rw [← e1, List.length_mergeSort]
    rw [e2] at hrow
    have hrow' := own_mono hrow (base' := w.heap.size) (by simp)
    refine ⟨v, rfl, ?_, ((Below.refl _ w).alloc (Nat.le_refl _) _).trans (hb.mono (by simp))⟩
    rw [← e1] at hrow' ⊢
    exact hrow'
end Dk
end Go.Proofs.YtbolcapgocjgcaaGreatDoor
