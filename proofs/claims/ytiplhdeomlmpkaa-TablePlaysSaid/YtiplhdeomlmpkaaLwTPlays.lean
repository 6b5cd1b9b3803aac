/- Proved: what was answered is noted and found as the document says (TablePlays), for any operations and answers, raw ones too. -/
import Derived.Test.YtiplhdeomlmpkaaTbO
import Derived.Test.YtiplhdeomlmpkaaTbP
import Derived.Test.YtiplhdeomlmpkaaDtD
import Derived.Deep.RegionHeld3
import Derived.JoinedRecord
import Derived.HandedShaped
namespace Go.Proofs.Ytiplhdeomlmpkaa.tablePlays
set_option maxRecDepth 100000
open Go.ChangeShapes Go.WideShapes Go.ChangeAt Go.WideMaps Go.WideElems Go.RowKit
open Go.Sort (grow)
open Go.Proofs.Ytiplhdeomlmpkaa.Pk (Rb adr_block one_at one_free one_set lt_some grown_set grown_trans below_grown grown_refl u8s own_form)
open Go.Proofs.Ytiplhdeomlmpkaa.Tb
open Go.Proofs.Ytiplhdeomlmpkaa.Wt (Opn mayOp)


def wl (f : F) (m : Nat) : Nat := (walk f m).length
theorem wl_end (f : F) : wl f 200 = (keys f).length := rfl
theorem wl_next (f : F) (m : Nat) : wl f (m + 1) = pos f m 6 := pos_end f m
def BAt (W : World) (f : F) (v11 v12 : Value) (wr : World) : Prop := ∃ m : Nat, v12 = .int .i64 ((m : Int) + 1) ∧ m ≤ 200 ∧ v11 = .int .i64 (wl f m : Nat) ∧ Below W.heap.size W wr
def JAt (W : World) (f : F) (m : Nat) (v11 v13 : Value) (wr : World) : Prop := ∃ i : Nat, v13 = .int .i64 ((i : Int) + 1) ∧ i ≤ 6 ∧ v11 = .int .i64 (pos f m i : Nat) ∧ Below W.heap.size W wr
def PlAt (W : World) (q d : Nat) (i : Value) (wr : World) : Prop := ∃ (j : Nat) (f : F), i = .int .i64 j ∧ j ≤ 80 ∧ Md W q d f f wr
set_option maxHeartbeats 6400000 in
theorem walk (w : World) (A : Option Addr) (n c : Nat) (l : List Pt) (R : Ops w w.heap.size A n l) (hn : n ≤ 9223372036854775807) :
    Calls Try.prog 3 #[.slice A n c] w fun e w' => e = .returned (.bool true) ∧ Below w.heap.size w w' := by
  have N0 := ow_new w
  replace R := Lib.hid R
  go_enter Try.func3, Try.ntmps3
  go_wp2_with fail
  refine N0.mono ?_
  rintro e w1 ⟨q, rfl, O1⟩
  obtain ⟨W0, hW0⟩ : ∃ X, X = w1.alloc (.cells zeros 29) := ⟨_, rfl⟩
  obtain ⟨d, hd⟩ : ∃ x, x = w1.heap.size := ⟨_, rfl⟩
  have st : Hid (PlAt w q d (.int .i64 0) W0) := ⟨0, fz, rfl, by omega, md_start O1 (by rw [hW0]; exact (Below.refl _ _).alloc (Nat.le_refl _) _) (by rw [hd]; exact Nat.le_refl _) (by rw [hW0, hd]; exact dm_new w1)⟩
  replace hW0 := Lib.hid hW0
  replace hd := Lib.hid hd
  clear N0 O1
  go_wp2_with (first
    | (refine wpList_build11 rfl rfl ?_)
    | (refine wpList_box11 rfl (.tmp 17) rfl zeros rfl ?_; rw [← hW0.out, ← hd.out]))
  go_loopw [5] (fun i wr => PlAt w q d i wr) (fun i _ => 80 - (intOf i).toNat)
  case atStart => exact st.out
  case round =>
    clear st
    obtain ⟨j, f, rfl, hj, M⟩ := hrel
    by_cases hjn : j < n
    · by_cases h60 : j < 80
      · obtain ⟨s, hs⟩ : ∃ s, l[j]? = some s := ⟨_, List.getElem?_eq_getElem (by have := R.out.len; omega)⟩
        obtain ⟨ad, rfl, hab, hat⟩ := R.out.at_ (by omega)
        have hbp : Hid (Bp (s.o.book, s.o.kind)) := R.out.bp s (List.mem_of_getElem? hs)
        have SA : Hid (∀ w', Below w.heap.size w w' → w'.cell? (ad.add (j * 6)) = some (.int .i64 s.o.kind) ∧ w'.cell? ⟨(ad.add (j * 6)).block, (ad.add (j * 6)).off + 1, none⟩ = some (.int .i64 s.o.book) ∧ w'.cell? ⟨(ad.add (j * 6)).block, (ad.add (j * 6)).off + 2, none⟩ = some (.int .i64 s.o.units) ∧ w'.cell? ⟨(ad.add (j * 6)).block, (ad.add (j * 6)).off + 3, none⟩ = some (.int .i64 s.o.cust) ∧ w'.cell? ⟨(ad.add (j * 6)).block, (ad.add (j * 6)).off + 4, none⟩ = some (.int .i64 s.o.amount) ∧ w'.cell? ⟨(ad.add (j * 6)).block, (ad.add (j * 6)).off + 5, none⟩ = some (.int .i64 s.a)) := fun w' hb => by
          obtain ⟨x0, x1, x2, x3, x4, x5⟩ := (hat j s hs).same (hb.block _ hab)
          exact ⟨x0, x1, x2, x3, x4, x5⟩
        have i1 : (j : Int) < 80 := by omega
        have MEAS : Hid (80 - (intOf (.int .i64 ((j : Int) + 1))).toNat < 80 - (intOf (.int .i64 (j : Int))).toNat) := by unfold Hid; simp only [intOf]; omega
        obtain ⟨f', hf'⟩ : ∃ z, z = putF f s.o s.a := ⟨_, rfl⟩
        obtain ⟨r, hr⟩ : ∃ z, z = put? f s.o s.a := ⟨_, rfl⟩
        obtain ⟨N, hN⟩ : ∃ N : Int, N = (cnt f' : Int) := ⟨_, rfl⟩
        have QD : Hid (∀ f2 w', Md w q d f f2 w' → Calls Try.prog 7 #[.pointer (some ⟨q, 0, none⟩), .agg #[.int .i64 s.o.kind, .int .i64 s.o.book, .int .i64 s.o.units, .int .i64 s.o.cust, .int .i64 s.o.amount], .int .i64 s.a] w' fun e w'' => e = .returned (.bool r) ∧ Md w q d f' f2 w'') := fun f2 w' h => by rw [hr, hf']; exact md_put h s.o s.a
        have QX : Hid (∀ f1 w', Md w q d f1 f w' → Calls Try.prog 8 #[.pointer (some ⟨d, 0, none⟩), .agg #[.int .i64 s.o.kind, .int .i64 s.o.book, .int .i64 s.o.units, .int .i64 s.o.cust, .int .i64 s.o.amount], .int .i64 s.a] w' fun e w'' => e = .returned (.bool r) ∧ Md w q d f1 f' w'') := fun f1 w' h => by rw [hr, hf']; exact mx_put h s.o s.a
        have QL : Hid (∀ w', Md w q d f' f' w' → Calls Try.prog 9 #[.pointer (some ⟨q, 0, none⟩)] w' fun e w'' => e = .returned (.int .i64 N) ∧ w' = w'') := fun w' h => by rw [hN]; exact ow_len h.ow
        have QN : Hid (∀ w', Md w q d f' f' w' → w'.cell? ⟨d, 1407, none⟩ = some (.int .i64 N)) := fun w' h => by rw [hN]; exact h.dm.num
        have ok' : Hid (Ok f') := by rw [hf']; exact M.ow.ok.put _ _
        have m0' := M.drew
        have s0 := SA.out _ m0'.be
        have c00 := SA.out _ M.be
        have q9 : (r != r) = false := by simp
        have q8 : (N != N) = false := by simp
        replace hf' := Lib.hid hf'
        replace hr := Lib.hid hr
        replace hN := Lib.hid hN
        clear M hs hat hab
        go_wp2_with fail
        go_cut [62] from 29 to 62 (fun s62 wx => s62 = .bool false ∧ Md w q d f' f' wx)
        case first =>
          refine wp_region_held_drew (S := fun w' => w'.cell? (ad.add (j * 6)) = some (.int .i64 s.o.kind) ∧ w'.cell? ⟨(ad.add (j * 6)).block, (ad.add (j * 6)).off + 1, none⟩ = some (.int .i64 s.o.book) ∧ w'.cell? ⟨(ad.add (j * 6)).block, (ad.add (j * 6)).off + 2, none⟩ = some (.int .i64 s.o.units) ∧ w'.cell? ⟨(ad.add (j * 6)).block, (ad.add (j * 6)).off + 3, none⟩ = some (.int .i64 s.o.cust) ∧ w'.cell? ⟨(ad.add (j * 6)).block, (ad.add (j * 6)).off + 4, none⟩ = some (.int .i64 s.o.amount) ∧ w'.cell? ⟨(ad.add (j * 6)).block, (ad.add (j * 6)).off + 5, none⟩ = some (.int .i64 s.a)) (by kernel_rfl) s0 (fun hHeld => ?_)
          refine' wpAnyH_take (i := 0) (oi := ?o1) (v := ?v1) ?hi1 (by kernel_rfl) (by kernel_rfl) (by kernel_rfl) ?hP1 (Or.inl ⟨?hw1, ?hy1⟩) hHeld ?rest1
          case hi1 => simp only [List.getElem?_toArray, List.getElem?_cons_zero]; rfl
          case hP1 => exact fun _ _ _ h => h
          case hw1 => rfl
          case hy1 =>
            intro w hSw
            obtain ⟨s0, s1, s2, s3, s4, s5⟩ := hSw
            go_simp
            try with_reducible rfl
          simp only [Act.put, List.setIfInBounds_toArray, List.set_cons_zero, List.set_cons_succ]
          refine' wpAnyH_take (i := 1) (oi := ?o2) (v := ?v2) ?hi2 (by kernel_rfl) (by kernel_rfl) (by kernel_rfl) ?hP2 (Or.inl ⟨?hw2, ?hy2⟩) hHeld ?rest2
          case hi2 => simp only [List.getElem?_toArray, List.getElem?_cons_succ, List.getElem?_cons_zero]; rfl
          case hP2 => exact fun _ _ _ h => h
          case hw2 => rfl
          case hy2 =>
            intro w hSw
            obtain ⟨s0, s1, s2, s3, s4, s5⟩ := hSw
            go_simp
            try with_reducible rfl
          simp only [Act.put, List.setIfInBounds_toArray, List.set_cons_zero, List.set_cons_succ]
          refine' wpAnyH_take (i := 2) (oi := ?o3) (v := ?v3) ?hi3 (by kernel_rfl) (by kernel_rfl) (by kernel_rfl) ?hP3 (Or.inl ⟨?hw3, ?hy3⟩) hHeld ?rest3
          case hi3 => simp only [List.getElem?_toArray, List.getElem?_cons_succ, List.getElem?_cons_zero]; rfl
          case hP3 => exact fun _ _ _ h => h
          case hw3 => rfl
          case hy3 =>
            intro w hSw
            obtain ⟨s0, s1, s2, s3, s4, s5⟩ := hSw
            go_simp
            try with_reducible rfl
          simp only [Act.put, List.setIfInBounds_toArray, List.set_cons_zero, List.set_cons_succ]
          refine' wpAnyH_take (i := 3) (oi := ?o4) (v := ?v4) ?hi4 (by kernel_rfl) (by kernel_rfl) (by kernel_rfl) ?hP4 (Or.inl ⟨?hw4, ?hy4⟩) hHeld ?rest4
          case hi4 => simp only [List.getElem?_toArray, List.getElem?_cons_succ, List.getElem?_cons_zero]; rfl
          case hP4 => exact fun _ _ _ h => h
          case hw4 => rfl
          case hy4 =>
            intro w hSw
            obtain ⟨s0, s1, s2, s3, s4, s5⟩ := hSw
            go_simp
            try with_reducible rfl
          simp only [Act.put, List.setIfInBounds_toArray, List.set_cons_zero, List.set_cons_succ]
          refine' wpAnyH_take (i := 4) (oi := ?o5) (v := ?v5) ?hi5 (by kernel_rfl) (by kernel_rfl) (by kernel_rfl) ?hP5 (Or.inl ⟨?hw5, ?hy5⟩) hHeld ?rest5
          case hi5 => simp only [List.getElem?_toArray, List.getElem?_cons_succ, List.getElem?_cons_zero]; rfl
          case hP5 => exact fun _ _ _ h => h
          case hw5 => rfl
          case hy5 =>
            intro w hSw
            obtain ⟨s0, s1, s2, s3, s4, s5⟩ := hSw
            go_simp
            try with_reducible rfl
          simp only [Act.put, List.setIfInBounds_toArray, List.set_cons_zero, List.set_cons_succ]
          refine' wpAnyH_take (i := 5) (oi := ?o6) (v := ?v6) ?hi6 (by kernel_rfl) (by kernel_rfl) (by kernel_rfl) ?hP6 (Or.inl ⟨?hw6, ?hy6⟩) hHeld ?rest6
          case hi6 => simp only [List.getElem?_toArray, List.getElem?_cons_succ, List.getElem?_cons_zero]; rfl
          case hP6 => exact fun _ _ _ h => h
          case hw6 => rfl
          case hy6 =>
            intro w hSw
            obtain ⟨s0, s1, s2, s3, s4, s5⟩ := hSw
            go_simp
            try with_reducible rfl
          simp only [Act.put, List.setIfInBounds_toArray, List.set_cons_zero, List.set_cons_succ]
          refine' wpAnyH_take (i := 6) (oi := ?o7) (v := ?v7) ?hi7 (by kernel_rfl) (by kernel_rfl) (by kernel_rfl) ?hP7 (Or.inl ⟨?hw7, ?hy7⟩) hHeld ?rest7
          case hi7 => simp only [List.getElem?_toArray, List.getElem?_cons_succ, List.getElem?_cons_zero]; rfl
          case hP7 => exact fun _ _ _ h => h
          case hw7 => rfl
          case hy7 =>
            intro w hSw
            obtain ⟨s0, s1, s2, s3, s4, s5⟩ := hSw
            go_simp
            try with_reducible rfl
          simp only [Act.put, List.setIfInBounds_toArray, List.set_cons_zero, List.set_cons_succ]
          refine' wpAnyH_take (i := 7) (oi := ?o8) (v := ?v8) ?hi8 (by kernel_rfl) (by kernel_rfl) (by kernel_rfl) ?hP8 (Or.inl ⟨?hw8, ?hy8⟩) hHeld ?rest8
          case hi8 => simp only [List.getElem?_toArray, List.getElem?_cons_succ, List.getElem?_cons_zero]; rfl
          case hP8 => exact fun _ _ _ h => h
          case hw8 => rfl
          case hy8 =>
            intro w hSw
            obtain ⟨s0, s1, s2, s3, s4, s5⟩ := hSw
            go_simp
            try with_reducible rfl
          simp only [Act.put, List.setIfInBounds_toArray, List.set_cons_zero, List.set_cons_succ]
          refine' wpAnyH_take (i := 8) (oi := ?o9) (v := ?v9) ?hi9 (by kernel_rfl) (by kernel_rfl) (by kernel_rfl) ?hP9 (Or.inl ⟨?hw9, ?hy9⟩) hHeld ?rest9
          case hi9 => simp only [List.getElem?_toArray, List.getElem?_cons_succ, List.getElem?_cons_zero]; rfl
          case hP9 => exact fun _ _ _ h => h
          case hw9 => rfl
          case hy9 =>
            intro w hSw
            obtain ⟨s0, s1, s2, s3, s4, s5⟩ := hSw
            go_simp
            try with_reducible rfl
          simp only [Act.put, List.setIfInBounds_toArray, List.set_cons_zero, List.set_cons_succ]
          refine' wpAnyH_take (i := 9) (oi := ?o10) (v := ?v10) ?hi10 (by kernel_rfl) (by kernel_rfl) (by kernel_rfl) ?hP10 (Or.inl ⟨?hw10, ?hy10⟩) hHeld ?rest10
          case hi10 => simp only [List.getElem?_toArray, List.getElem?_cons_succ, List.getElem?_cons_zero]; rfl
          case hP10 => exact fun _ _ _ h => h
          case hw10 => rfl
          case hy10 =>
            intro w hSw
            obtain ⟨s0, s1, s2, s3, s4, s5⟩ := hSw
            go_simp
            try with_reducible rfl
          simp only [Act.put, List.setIfInBounds_toArray, List.set_cons_zero, List.set_cons_succ]
          refine' wpAnyH_take (i := 10) (oi := ?o11) (v := ?v11) ?hi11 (by kernel_rfl) (by kernel_rfl) (by kernel_rfl) ?hP11 (Or.inl ⟨?hw11, ?hy11⟩) hHeld ?rest11
          case hi11 => simp only [List.getElem?_toArray, List.getElem?_cons_succ, List.getElem?_cons_zero]; rfl
          case hP11 => exact fun _ _ _ h => h
          case hw11 => rfl
          case hy11 =>
            intro w hSw
            obtain ⟨s0, s1, s2, s3, s4, s5⟩ := hSw
            go_simp
            try with_reducible rfl
          simp only [Act.put, List.setIfInBounds_toArray, List.set_cons_zero, List.set_cons_succ]
          refine' wpAnyH_take (i := 12) (oi := ?o12) (v := ?v12) ?hi12 (by kernel_rfl) (by kernel_rfl) (by kernel_rfl) ?hP12 (Or.inl ⟨?hw12, ?hy12⟩) hHeld ?rest12
          case hi12 => simp only [List.getElem?_toArray, List.getElem?_cons_succ, List.getElem?_cons_zero]; rfl
          case hP12 => exact fun _ _ _ h => h
          case hw12 => rfl
          case hy12 =>
            intro w hSw
            obtain ⟨s0, s1, s2, s3, s4, s5⟩ := hSw
            go_simp
            try with_reducible rfl
          simp only [Act.put, List.setIfInBounds_toArray, List.set_cons_zero, List.set_cons_succ]
          refine' wpAnyH_take (i := 13) (oi := ?o13) (v := ?v13) ?hi13 (by kernel_rfl) (by kernel_rfl) (by kernel_rfl) ?hP13 (Or.inl ⟨?hw13, ?hy13⟩) hHeld ?rest13
          case hi13 => simp only [List.getElem?_toArray, List.getElem?_cons_succ, List.getElem?_cons_zero]; rfl
          case hP13 => exact fun _ _ _ h => h
          case hw13 => rfl
          case hy13 =>
            intro w hSw
            obtain ⟨s0, s1, s2, s3, s4, s5⟩ := hSw
            go_simp
            try with_reducible rfl
          simp only [Act.put, List.setIfInBounds_toArray, List.set_cons_zero, List.set_cons_succ]
          refine' wpAnyH_take (i := 14) (oi := ?o14) (v := ?v14) ?hi14 (by kernel_rfl) (by kernel_rfl) (by kernel_rfl) ?hP14 (Or.inl ⟨?hw14, ?hy14⟩) hHeld ?rest14
          case hi14 => simp only [List.getElem?_toArray, List.getElem?_cons_succ, List.getElem?_cons_zero]; rfl
          case hP14 => exact fun _ _ _ h => h
          case hw14 => rfl
          case hy14 =>
            intro w hSw
            obtain ⟨s0, s1, s2, s3, s4, s5⟩ := hSw
            go_simp
            try with_reducible rfl
          simp only [Act.put, List.setIfInBounds_toArray, List.set_cons_zero, List.set_cons_succ]
          refine' wpAnyH_take (i := 15) (oi := ?o15) (v := ?v15) ?hi15 (by kernel_rfl) (by kernel_rfl) (by kernel_rfl) ?hP15 (Or.inl ⟨?hw15, ?hy15⟩) hHeld ?rest15
          case hi15 => simp only [List.getElem?_toArray, List.getElem?_cons_succ, List.getElem?_cons_zero]; rfl
          case hP15 => exact fun _ _ _ h => h
          case hw15 => rfl
          case hy15 =>
            intro w hSw
            obtain ⟨s0, s1, s2, s3, s4, s5⟩ := hSw
            go_simp
            try with_reducible rfl
          simp only [Act.put, List.setIfInBounds_toArray, List.set_cons_zero, List.set_cons_succ]
          refine' wpAnyH_take (i := 16) (oi := ?o16) (v := ?v16) ?hi16 (by kernel_rfl) (by kernel_rfl) (by kernel_rfl) ?hP16 (Or.inl ⟨?hw16, ?hy16⟩) hHeld ?rest16
          case hi16 => simp only [List.getElem?_toArray, List.getElem?_cons_succ, List.getElem?_cons_zero]; rfl
          case hP16 => exact fun _ _ _ h => h
          case hw16 => rfl
          case hy16 =>
            intro w hSw
            obtain ⟨s0, s1, s2, s3, s4, s5⟩ := hSw
            go_simp
            try with_reducible rfl
          simp only [Act.put, List.setIfInBounds_toArray, List.set_cons_zero, List.set_cons_succ]
          refine' wpAnyH_take (i := 17) (oi := ?o17) (v := ?v17) ?hi17 (by kernel_rfl) (by kernel_rfl) (by kernel_rfl) ?hP17 (Or.inl ⟨?hw17, ?hy17⟩) hHeld ?rest17
          case hi17 => simp only [List.getElem?_toArray, List.getElem?_cons_succ, List.getElem?_cons_zero]; rfl
          case hP17 => exact fun _ _ _ h => h
          case hw17 => rfl
          case hy17 =>
            intro w hSw
            obtain ⟨s0, s1, s2, s3, s4, s5⟩ := hSw
            go_simp
            try with_reducible rfl
          simp only [Act.put, List.setIfInBounds_toArray, List.set_cons_zero, List.set_cons_succ]
          refine' wpAnyH_take (i := 18) (oi := ?o18) (v := ?v18) ?hi18 (by kernel_rfl) (by kernel_rfl) (by kernel_rfl) ?hP18 (Or.inl ⟨?hw18, ?hy18⟩) hHeld ?rest18
          case hi18 => simp only [List.getElem?_toArray, List.getElem?_cons_succ, List.getElem?_cons_zero]; rfl
          case hP18 => exact fun _ _ _ h => h
          case hw18 => rfl
          case hy18 =>
            intro w hSw
            obtain ⟨s0, s1, s2, s3, s4, s5⟩ := hSw
            go_simp
            try with_reducible rfl
          simp only [Act.put, List.setIfInBounds_toArray, List.set_cons_zero, List.set_cons_succ]
          refine' wpAnyH_take (i := 19) (oi := ?o19) (v := ?v19) ?hi19 (by kernel_rfl) (by kernel_rfl) (by kernel_rfl) ?hP19 (Or.inl ⟨?hw19, ?hy19⟩) hHeld ?rest19
          case hi19 => simp only [List.getElem?_toArray, List.getElem?_cons_succ, List.getElem?_cons_zero]; rfl
          case hP19 => exact fun _ _ _ h => h
          case hw19 => rfl
          case hy19 =>
            intro w hSw
            obtain ⟨s0, s1, s2, s3, s4, s5⟩ := hSw
            go_simp
            try with_reducible rfl
          simp only [Act.put, List.setIfInBounds_toArray, List.set_cons_zero, List.set_cons_succ]
          refine' wpAnyH_take (i := 20) (oi := ?o20) (v := ?v20) ?hi20 (by kernel_rfl) (by kernel_rfl) (by kernel_rfl) ?hP20 (Or.inl ⟨?hw20, ?hy20⟩) hHeld ?rest20
          case hi20 => simp only [List.getElem?_toArray, List.getElem?_cons_succ, List.getElem?_cons_zero]; rfl
          case hP20 => exact fun _ _ _ h => h
          case hw20 => rfl
          case hy20 =>
            intro w hSw
            obtain ⟨s0, s1, s2, s3, s4, s5⟩ := hSw
            go_simp
            try with_reducible rfl
          simp only [Act.put, List.setIfInBounds_toArray, List.set_cons_zero, List.set_cons_succ]
          refine' wpAnyH_take (i := 21) (oi := ?o21) (v := ?v21) ?hi21 (by kernel_rfl) (by kernel_rfl) (by kernel_rfl) ?hP21 (Or.inl ⟨?hw21, ?hy21⟩) hHeld ?rest21
          case hi21 => simp only [List.getElem?_toArray, List.getElem?_cons_succ, List.getElem?_cons_zero]; rfl
          case hP21 => exact fun _ _ _ h => h
          case hw21 => rfl
          case hy21 =>
            intro w hSw
            obtain ⟨s0, s1, s2, s3, s4, s5⟩ := hSw
            go_simp
            try with_reducible rfl
          simp only [Act.put, List.setIfInBounds_toArray, List.set_cons_zero, List.set_cons_succ]
          refine' wpAnyH_take (i := 22) (oi := ?o22) (v := ?v22) ?hi22 (by kernel_rfl) (by kernel_rfl) (by kernel_rfl) ?hP22 (Or.inl ⟨?hw22, ?hy22⟩) hHeld ?rest22
          case hi22 => simp only [List.getElem?_toArray, List.getElem?_cons_succ, List.getElem?_cons_zero]; rfl
          case hP22 => exact fun _ _ _ h => h
          case hw22 => rfl
          case hy22 =>
            intro w hSw
            obtain ⟨s0, s1, s2, s3, s4, s5⟩ := hSw
            go_simp
            try with_reducible rfl
          simp only [Act.put, List.setIfInBounds_toArray, List.set_cons_zero, List.set_cons_succ]
          refine wpAnyH_ready (rs := [11]) (by kernel_rfl) (by simp) ?_
          refine' AllReadyH.cons (i := 11) (o := ?o23) ?hi23 (fun K hK => ?st23) ?mo23
          case hi23 => simp only [List.getElem?_toArray, List.getElem?_cons_succ, List.getElem?_cons_zero]; rfl
          case st23 =>
            go_simp
            refine (QD.out _ _ m0').mono ?_
            rintro e w6 ⟨rfl, M6⟩
            go_simp
            refine hK.out _ _ (SA.out _ M6.be) (fun hHeld => ?_)
            clear hK K
            try simp only [Act.put, List.setIfInBounds_toArray, List.set_cons_zero, List.set_cons_succ]
            refine wpAnyH_ready (rs := [23]) (by kernel_rfl) (by simp) ?_
            refine' AllReadyH.cons (i := 23) (o := ?o24) ?hi24 (fun K hK => ?st24) ?mo24
            case hi24 => simp only [List.getElem?_toArray, List.getElem?_cons_succ, List.getElem?_cons_zero]; rfl
            case st24 =>
              go_simp
              refine (QX.out _ _ M6).mono ?_
              rintro e w7 ⟨rfl, M7⟩
              go_simp
              refine hK.out _ _ (SA.out _ M7.be) (fun hHeld => ?_)
              clear hK K
              try simp only [Act.put, List.setIfInBounds_toArray, List.set_cons_zero, List.set_cons_succ]
              refine' wpAnyH_take (i := 24) (oi := ?o25) (v := ?v25) ?hi25 (by kernel_rfl) (by kernel_rfl) (by kernel_rfl) ?hP25 (Or.inl ⟨?hw25, ?hy25⟩) hHeld ?rest25
              case hi25 => simp only [List.getElem?_toArray, List.getElem?_cons_succ, List.getElem?_cons_zero]; rfl
              case hP25 => exact fun _ _ _ h => h
              case hw25 => rfl
              case hy25 =>
                intro w hSw
                obtain ⟨s0, s1, s2, s3, s4, s5⟩ := hSw
                go_simp
                try with_reducible rfl
              simp only [Act.put, List.setIfInBounds_toArray, List.set_cons_zero, List.set_cons_succ]
              refine' wpAnyH_take (i := 25) (oi := ?o26) (v := ?v26) ?hi26 (by kernel_rfl) (by kernel_rfl) (by kernel_rfl) ?hP26 (Or.inl ⟨?hw26, ?hy26⟩) hHeld ?rest26
              case hi26 => simp only [List.getElem?_toArray, List.getElem?_cons_succ, List.getElem?_cons_zero]; rfl
              case hP26 => exact fun _ _ _ h => h
              case hw26 => rfl
              case hy26 =>
                intro w hSw
                obtain ⟨s0, s1, s2, s3, s4, s5⟩ := hSw
                go_simp
                try with_reducible rfl
              simp only [Act.put, List.setIfInBounds_toArray, List.set_cons_zero, List.set_cons_succ]
              refine' wpAnyH_take (i := 26) (oi := ?o27) (v := ?v27) ?hi27 (by kernel_rfl) (by kernel_rfl) (by kernel_rfl) ?hP27 (Or.inl ⟨?hw27, ?hy27⟩) hHeld ?rest27
              case hi27 => simp only [List.getElem?_toArray, List.getElem?_cons_succ, List.getElem?_cons_zero]; rfl
              case hP27 => exact fun _ _ _ h => h
              case hw27 => rfl
              case hy27 =>
                intro w hSw
                obtain ⟨s0, s1, s2, s3, s4, s5⟩ := hSw
                go_simp
                try with_reducible rfl
              simp only [Act.put, List.setIfInBounds_toArray, List.set_cons_zero, List.set_cons_succ]
              refine' wpAnyH_take (i := 28) (oi := ?o28) (v := ?v28) ?hi28 (by kernel_rfl) (by kernel_rfl) (by kernel_rfl) ?hP28 (Or.inl ⟨?hw28, ?hy28⟩) hHeld ?rest28
              case hi28 => simp only [List.getElem?_toArray, List.getElem?_cons_succ, List.getElem?_cons_zero]; rfl
              case hP28 => exact fun _ _ _ h => h
              case hw28 => rfl
              case hy28 =>
                intro w hSw
                obtain ⟨s0, s1, s2, s3, s4, s5⟩ := hSw
                go_simp
                try with_reducible rfl
              simp only [Act.put, List.setIfInBounds_toArray, List.set_cons_zero, List.set_cons_succ]
              refine' wpAnyH_take (i := 29) (oi := ?o29) (v := ?v29) ?hi29 (by kernel_rfl) (by kernel_rfl) (by kernel_rfl) ?hP29 (Or.inl ⟨?hw29, ?hy29⟩) hHeld ?rest29
              case hi29 => simp only [List.getElem?_toArray, List.getElem?_cons_succ, List.getElem?_cons_zero]; rfl
              case hP29 => exact fun _ _ _ h => h
              case hw29 => rfl
              case hy29 =>
                intro w hSw
                obtain ⟨s0, s1, s2, s3, s4, s5⟩ := hSw
                go_simp
                try with_reducible rfl
              simp only [Act.put, List.setIfInBounds_toArray, List.set_cons_zero, List.set_cons_succ]
              refine' wpAnyH_take (i := 30) (oi := ?o30) (v := ?v30) ?hi30 (by kernel_rfl) (by kernel_rfl) (by kernel_rfl) ?hP30 (Or.inl ⟨?hw30, ?hy30⟩) hHeld ?rest30
              case hi30 => simp only [List.getElem?_toArray, List.getElem?_cons_succ, List.getElem?_cons_zero]; rfl
              case hP30 => exact fun _ _ _ h => h
              case hw30 => rfl
              case hy30 =>
                intro w hSw
                obtain ⟨s0, s1, s2, s3, s4, s5⟩ := hSw
                go_simp
                try with_reducible rfl
              simp only [Act.put, List.setIfInBounds_toArray, List.set_cons_zero, List.set_cons_succ]
              refine wpAnyH_ready (rs := [27, 31]) (by kernel_rfl) (by simp) ?_
              refine' AllReadyH.cons (i := 27) (o := ?o31) ?hi31 (fun K hK => ?st31) ?mo31
              case hi31 => simp only [List.getElem?_toArray, List.getElem?_cons_succ, List.getElem?_cons_zero]; rfl
              case st31 =>
                go_simp
                refine (QL.out _ M7).mono ?_
                rintro e w' ⟨rfl, rfl⟩
                go_simp
                refine hK.out _ _ (SA.out _ M7.be) (fun hHeld => ?_)
                clear hK K
                try simp only [Act.put, List.setIfInBounds_toArray, List.set_cons_zero, List.set_cons_succ]
                refine wpAnyH_ready (rs := [31]) (by kernel_rfl) (by simp) ?_
                refine' AllReadyH.cons (i := 31) (o := ?o32) ?hi32 (fun K hK => ?st32) ?mo32
                case hi32 => simp only [List.getElem?_toArray, List.getElem?_cons_succ, List.getElem?_cons_zero]; rfl
                case st32 =>
                  have sn := QN.out _ M7
                  go_simp
                  refine hK.out _ _ (SA.out _ M7.be) (fun hHeld => ?_)
                  clear hK K
                  try simp only [Act.put, List.setIfInBounds_toArray, List.set_cons_zero, List.set_cons_succ]
                  refine' wpAnyH_take (i := 32) (oi := ?o33) (v := ?v33) ?hi33 (by kernel_rfl) (by kernel_rfl) (by kernel_rfl) ?hP33 (Or.inl ⟨?hw33, ?hy33⟩) hHeld ?rest33
                  case hi33 => simp only [List.getElem?_toArray, List.getElem?_cons_succ, List.getElem?_cons_zero]; rfl
                  case hP33 => exact fun _ _ _ h => h
                  case hw33 => rfl
                  case hy33 =>
                    intro w hSw
                    obtain ⟨s0, s1, s2, s3, s4, s5⟩ := hSw
                    go_simp
                    try with_reducible rfl
                  simp only [Act.put, List.setIfInBounds_toArray, List.set_cons_zero, List.set_cons_succ]
                  refine' wpAnyH_take (i := 33) (oi := ?o34) (v := ?v34) ?hi34 (by kernel_rfl) (by kernel_rfl) (by kernel_rfl) ?hP34 (Or.inl ⟨?hw34, ?hy34⟩) hHeld ?rest34
                  case hi34 => simp only [List.getElem?_toArray, List.getElem?_cons_succ, List.getElem?_cons_zero]; rfl
                  case hP34 => exact fun _ _ _ h => h
                  case hw34 => rfl
                  case hy34 =>
                    intro w hSw
                    obtain ⟨s0, s1, s2, s3, s4, s5⟩ := hSw
                    go_simp
                    try with_reducible rfl
                  simp only [Act.put, List.setIfInBounds_toArray, List.set_cons_zero, List.set_cons_succ]
                  refine wpAnyH_done (by kernel_rfl) ?_ _
                  go_wp2
                  go_meet
                  case rel => exact ⟨by simp, M7⟩
                case mo32 => exact AllReadyH.nil
              case mo31 =>
                refine' AllReadyH.cons (i := 31) (o := ?o35) ?hi35 (fun K hK => ?st35) ?mo35
                case hi35 => simp only [List.getElem?_toArray, List.getElem?_cons_succ, List.getElem?_cons_zero]; rfl
                case st35 =>
                  have sn := QN.out _ M7
                  go_simp
                  refine hK.out _ _ (SA.out _ M7.be) (fun hHeld => ?_)
                  clear hK K
                  try simp only [Act.put, List.setIfInBounds_toArray, List.set_cons_zero, List.set_cons_succ]
                  refine wpAnyH_ready (rs := [27]) (by kernel_rfl) (by simp) ?_
                  refine' AllReadyH.cons (i := 27) (o := ?o36) ?hi36 (fun K hK => ?st36) ?mo36
                  case hi36 => simp only [List.getElem?_toArray, List.getElem?_cons_succ, List.getElem?_cons_zero]; rfl
                  case st36 =>
                    go_simp
                    refine (QL.out _ M7).mono ?_
                    rintro e w' ⟨rfl, rfl⟩
                    go_simp
                    refine hK.out _ _ (SA.out _ M7.be) (fun hHeld => ?_)
                    clear hK K
                    try simp only [Act.put, List.setIfInBounds_toArray, List.set_cons_zero, List.set_cons_succ]
                    refine' wpAnyH_take (i := 32) (oi := ?o37) (v := ?v37) ?hi37 (by kernel_rfl) (by kernel_rfl) (by kernel_rfl) ?hP37 (Or.inl ⟨?hw37, ?hy37⟩) hHeld ?rest37
                    case hi37 => simp only [List.getElem?_toArray, List.getElem?_cons_succ, List.getElem?_cons_zero]; rfl
                    case hP37 => exact fun _ _ _ h => h
                    case hw37 => rfl
                    case hy37 =>
                      intro w hSw
                      obtain ⟨s0, s1, s2, s3, s4, s5⟩ := hSw
                      go_simp
                      try with_reducible rfl
                    simp only [Act.put, List.setIfInBounds_toArray, List.set_cons_zero, List.set_cons_succ]
                    refine' wpAnyH_take (i := 33) (oi := ?o38) (v := ?v38) ?hi38 (by kernel_rfl) (by kernel_rfl) (by kernel_rfl) ?hP38 (Or.inl ⟨?hw38, ?hy38⟩) hHeld ?rest38
                    case hi38 => simp only [List.getElem?_toArray, List.getElem?_cons_succ, List.getElem?_cons_zero]; rfl
                    case hP38 => exact fun _ _ _ h => h
                    case hw38 => rfl
                    case hy38 =>
                      intro w hSw
                      obtain ⟨s0, s1, s2, s3, s4, s5⟩ := hSw
                      go_simp
                      try with_reducible rfl
                    simp only [Act.put, List.setIfInBounds_toArray, List.set_cons_zero, List.set_cons_succ]
                    refine wpAnyH_done (by kernel_rfl) ?_ _
                    go_wp2
                    go_meet
                    case rel => exact ⟨by simp, M7⟩
                  case mo36 => exact AllReadyH.nil
                case mo35 => exact AllReadyH.nil
            case mo24 => exact AllReadyH.nil
          case mo23 => exact AllReadyH.nil
        case rest =>
          obtain ⟨rfl, M5⟩ := hcut
          obtain ⟨x1, hx1⟩ : ∃ x, x = f' s.o.book s.o.kind := ⟨_, rfl⟩
          obtain ⟨bb, hbb⟩ : ∃ x, x = ne0 x1 := ⟨_, rfl⟩
          have FD : Hid (Calls Try.prog 10 #[.pointer (some ⟨q, 0, none⟩), .agg #[.int .i64 s.o.kind, .int .i64 s.o.book, .int .i64 s.o.units, .int .i64 s.o.cust, .int .i64 s.o.amount]] wc fun e w' => e = .returned (.tuple #[.int .i64 x1, .bool bb]) ∧ Below wc.heap.size wc w') := by
            rw [hbb, hx1]
            exact md_find M5 s.o hbp.out
          have FX : Hid (∀ w6, Below wc.heap.size wc w6 → Calls Try.prog 11 #[.pointer (some ⟨d, 0, none⟩), .agg #[.int .i64 s.o.kind, .int .i64 s.o.book, .int .i64 s.o.units, .int .i64 s.o.cust, .int .i64 s.o.amount]] w6 fun e w' => e = .returned (.tuple #[.int .i64 x1, .bool bb]) ∧ Below w6.heap.size w6 w') := fun w6 hb => by
            rw [hbb, hx1]
            exact mx_find (M5.below hb) ok'.out s.o
          have p1 : (x1 != x1) = false := by simp
          have p2 : (bb != bb) = false := by simp
          obtain ⟨y0, y1, y2, y3, y4, y5⟩ := SA.out _ M5.be
          replace M5 := Lib.hid M5
          replace hx1 := Lib.hid hx1
          replace hbb := Lib.hid hbb
          clear QD QX QL QN m0' s0 q9 q8
          go_wp2_with fail
          refine FD.out.mono ?_
          rintro e w6 ⟨rfl, b6⟩
          have M6 := Lib.hid (M5.out.below b6)
          have FY := Lib.hid (FX.out w6 b6)
          clear y0 y1 y2 y3 y4 y5 FD FX b6
          obtain ⟨y0, y1, y2, y3, y4, y5⟩ := SA.out _ M6.out.be
          go_wp2_with fail
          refine FY.out.mono ?_
          rintro e w7 ⟨rfl, b7⟩
          have M7 := Lib.hid (M6.out.below b7)
          clear y0 y1 y2 y3 y4 y5 FY b7 M6 M5 SA
          go_wp2_with fail
          go_roundw
          case rel => exact ⟨j + 1, f', rfl, by omega, M7.out⟩
          case measure => exact MEAS.out
      · have KE := Lib.hid (ow_keys M.ow)
        replace M := Lib.hid M
        clear R
        go_wp2_with fail
        refine KE.out.mono ?_
        rintro e w2 ⟨v, rfl, h2, b2⟩
        have M2 := Lib.hid (M.out.below b2)
        obtain ⟨A2, c2, rfl, hc1, hc2, hc3⟩ := rp_form h2
        obtain ⟨N, hN⟩ : ∃ N, N = (keys f).length := ⟨_, rfl⟩
        rw [← hN] at h2 hc1 ⊢
        have hNk : N ≤ 1200 := by rw [hN]; exact cnt_le f
        replace h2 := Lib.hid h2
        replace hN := Lib.hid hN
        have st : Hid (BAt w2 f (.int .i64 0) (.int .i64 1) w2) := ⟨0, rfl, by omega, rfl, Below.refl _ _⟩
        have EQ := eq_key_run
        clear KE b2 M
        go_wp2_with fail
        go_loopw [11, 12] (fun v11 v12 wr => BAt w2 f v11 v12 wr) (fun _ v12 _ => 201 - (intOf v12).toNat)
        case atStart => exact st.out
        case round =>
          clear st
          obtain ⟨m, rfl, hm, rfl, be⟩ := hrel
          obtain ⟨wa, e⟩ : ∃ x, x = wr := ⟨_, rfl⟩
          subst e
          by_cases hm2 : m < 200
          · have m1 : (m : Int) + 1 ≤ 200 := by omega
            have m3 : (m : Int) + 1 < 201 := by omega
            have m0 : (0 : Int) ≤ (m : Int) + 1 := by omega
            have st2 : Hid (JAt w2 f m (.int .i64 (wl f m : Nat)) (.int .i64 1) wa) := ⟨0, rfl, by omega, rfl, be⟩
            have MEA : Hid (201 - (intOf (.int .i64 ((m : Int) + 1 + 1))).toNat < 201 - (intOf (.int .i64 ((m : Int) + 1))).toNat) := by unfold Hid; simp only [intOf]; omega
            clear be
            go_wp2_with fail
            go_loopw [11, 13] (fun v11 v13 wr => JAt w2 f m v11 v13 wr) (fun _ v13 _ => 7 - (intOf v13).toNat)
            case atStart => exact st2.out
            case round =>
              clear st2
              obtain ⟨i, rfl, hi, rfl, be⟩ := hrel
              obtain ⟨P, hP⟩ : ∃ P, P = pos f m i := ⟨_, rfl⟩
              rw [← hP]
              by_cases hi2 : i < 6
              · have i1 : (i : Int) + 1 ≤ 6 := by omega
                have i3 : (i : Int) + 1 < 7 := by omega
                have i0 : (0 : Int) ≤ (i : Int) + 1 := by omega
                have MEB : Hid (7 - (intOf (.int .i64 ((i : Int) + 1 + 1))).toNat < 7 - (intOf (.int .i64 ((i : Int) + 1))).toNat) := by unfold Hid; simp only [intOf]; omega
                have cc : wr.cell? ⟨d, (m + 1) * 7 + (i + 1), none⟩ = some (.int .i64 (f ((m : Int) + 1) ((i : Int) + 1))) := (M2.out.below be).dm.at_ (m + 1) (i + 1) (by omega) (by omega)
                by_cases hz : f ((m : Int) + 1) ((i : Int) + 1) = 0
                · have E : Hid (pos f m (i + 1) = P) := by rw [hP]; exact pos_skip hz
                  rw [hz] at cc
                  replace be := Lib.hid be
                  replace hP := Lib.hid hP
                  clear hz
                  go_wp2_with fail
                  go_roundw
                  case rel => exact ⟨i + 1, rfl, by omega, by rw [E.out], be.out⟩
                  case measure => exact MEB.out
                · have E : Hid (pos f m (i + 1) = P + 1) := by rw [hP]; exact pos_step hz
                  obtain ⟨g, rfl, k0, k1⟩ := rp_cell (rp_below h2.out be) (key_at hm2 hi2 hz)
                  simp only at k0 k1
                  rw [← hP] at k0 k1
                  have hPN : P < N := by rw [hP, hN.out]; exact pos_lt hm2 hi2 hz
                  obtain ⟨x, hx⟩ : ∃ x, x = f ((m : Int) + 1) ((i : Int) + 1) := ⟨_, rfl⟩
                  rw [← hx] at cc hz
                  have g0 : (x == 0) = false := beq_eq_false_iff_ne.2 hz
                  have wP : IntKind.i64.wrap ((P : Int) + 1) = (P : Int) + 1 := by rw [IntKind.wrap_i64]; omega
                  replace be := Lib.hid be
                  replace hP := Lib.hid hP
                  replace hx := Lib.hid hx
                  clear hz
                  go_wp2_with fail
                  go_roundw
                  case rel => exact ⟨i + 1, rfl, by omega, by rw [E.out]; rfl, be.out⟩
                  case measure => exact MEB.out
              · have e6 : i = 6 := by omega
                have E : Hid (wl f (m + 1) = P) := by rw [hP, e6]; exact wl_next f m
                have i6 : ¬ (i : Int) + 1 ≤ 6 := by omega
                replace be := Lib.hid be
                replace hP := Lib.hid hP
                clear e6 hi hi2
                go_wp2_with fail
                go_roundw
                case rel => exact ⟨m + 1, rfl, by omega, by rw [E.out], be.out⟩
                case measure => exact MEA.out
          · have em : m = 200 := by omega
            have ewl : wl f m = N := by rw [em, wl_end, hN.out]
            rw [ewl]
            have m1 : ¬ (m : Int) + 1 ≤ 200 := by omega
            have TA := Lib.hid (told_any wa)
            have BE : Hid (Below w.heap.size w wa) := (M2.out.below be).be
            clear be ewl em hm hm2
            go_wp2_with fail
            refine TA.out.mono ?_
            rintro e w3 ⟨rfl, b3⟩
            have B3 : Hid (Below w.heap.size w w3) := BE.out.trans (b3.mono BE.out.size)
            clear TA b3
            go_wp2
            go_ret
            exact ⟨rfl, B3.out⟩
    · have KE := Lib.hid (ow_keys M.ow)
      replace M := Lib.hid M
      clear R
      go_wp2_with fail
      refine KE.out.mono ?_
      rintro e w2 ⟨v, rfl, h2, b2⟩
      have M2 := Lib.hid (M.out.below b2)
      obtain ⟨A2, c2, rfl, hc1, hc2, hc3⟩ := rp_form h2
      obtain ⟨N, hN⟩ : ∃ N, N = (keys f).length := ⟨_, rfl⟩
      rw [← hN] at h2 hc1 ⊢
      have hNk : N ≤ 1200 := by rw [hN]; exact cnt_le f
      replace h2 := Lib.hid h2
      replace hN := Lib.hid hN
      have st : Hid (BAt w2 f (.int .i64 0) (.int .i64 1) w2) := ⟨0, rfl, by omega, rfl, Below.refl _ _⟩
      have EQ := eq_key_run
      clear KE b2 M
      go_wp2_with fail
      go_loopw [11, 12] (fun v11 v12 wr => BAt w2 f v11 v12 wr) (fun _ v12 _ => 201 - (intOf v12).toNat)
      case atStart => exact st.out
      case round =>
        clear st
        obtain ⟨m, rfl, hm, rfl, be⟩ := hrel
        obtain ⟨wa, e⟩ : ∃ x, x = wr := ⟨_, rfl⟩
        subst e
        by_cases hm2 : m < 200
        · have m1 : (m : Int) + 1 ≤ 200 := by omega
          have m3 : (m : Int) + 1 < 201 := by omega
          have m0 : (0 : Int) ≤ (m : Int) + 1 := by omega
          have st2 : Hid (JAt w2 f m (.int .i64 (wl f m : Nat)) (.int .i64 1) wa) := ⟨0, rfl, by omega, rfl, be⟩
          have MEA : Hid (201 - (intOf (.int .i64 ((m : Int) + 1 + 1))).toNat < 201 - (intOf (.int .i64 ((m : Int) + 1))).toNat) := by unfold Hid; simp only [intOf]; omega
          clear be
          go_wp2_with fail
          go_loopw [11, 13] (fun v11 v13 wr => JAt w2 f m v11 v13 wr) (fun _ v13 _ => 7 - (intOf v13).toNat)
          case atStart => exact st2.out
          case round =>
            clear st2
            obtain ⟨i, rfl, hi, rfl, be⟩ := hrel
            obtain ⟨P, hP⟩ : ∃ P, P = pos f m i := ⟨_, rfl⟩
            rw [← hP]
            by_cases hi2 : i < 6
            · have i1 : (i : Int) + 1 ≤ 6 := by omega
              have i3 : (i : Int) + 1 < 7 := by omega
              have i0 : (0 : Int) ≤ (i : Int) + 1 := by omega
              have MEB : Hid (7 - (intOf (.int .i64 ((i : Int) + 1 + 1))).toNat < 7 - (intOf (.int .i64 ((i : Int) + 1))).toNat) := by unfold Hid; simp only [intOf]; omega
              have cc : wr.cell? ⟨d, (m + 1) * 7 + (i + 1), none⟩ = some (.int .i64 (f ((m : Int) + 1) ((i : Int) + 1))) := (M2.out.below be).dm.at_ (m + 1) (i + 1) (by omega) (by omega)
              by_cases hz : f ((m : Int) + 1) ((i : Int) + 1) = 0
              · have E : Hid (pos f m (i + 1) = P) := by rw [hP]; exact pos_skip hz
                rw [hz] at cc
                replace be := Lib.hid be
                replace hP := Lib.hid hP
                clear hz
                go_wp2_with fail
                go_roundw
                case rel => exact ⟨i + 1, rfl, by omega, by rw [E.out], be.out⟩
                case measure => exact MEB.out
              · have E : Hid (pos f m (i + 1) = P + 1) := by rw [hP]; exact pos_step hz
                obtain ⟨g, rfl, k0, k1⟩ := rp_cell (rp_below h2.out be) (key_at hm2 hi2 hz)
                simp only at k0 k1
                rw [← hP] at k0 k1
                have hPN : P < N := by rw [hP, hN.out]; exact pos_lt hm2 hi2 hz
                obtain ⟨x, hx⟩ : ∃ x, x = f ((m : Int) + 1) ((i : Int) + 1) := ⟨_, rfl⟩
                rw [← hx] at cc hz
                have g0 : (x == 0) = false := beq_eq_false_iff_ne.2 hz
                have wP : IntKind.i64.wrap ((P : Int) + 1) = (P : Int) + 1 := by rw [IntKind.wrap_i64]; omega
                replace be := Lib.hid be
                replace hP := Lib.hid hP
                replace hx := Lib.hid hx
                clear hz
                go_wp2_with fail
                go_roundw
                case rel => exact ⟨i + 1, rfl, by omega, by rw [E.out]; rfl, be.out⟩
                case measure => exact MEB.out
            · have e6 : i = 6 := by omega
              have E : Hid (wl f (m + 1) = P) := by rw [hP, e6]; exact wl_next f m
              have i6 : ¬ (i : Int) + 1 ≤ 6 := by omega
              replace be := Lib.hid be
              replace hP := Lib.hid hP
              clear e6 hi hi2
              go_wp2_with fail
              go_roundw
              case rel => exact ⟨m + 1, rfl, by omega, by rw [E.out], be.out⟩
              case measure => exact MEA.out
        · have em : m = 200 := by omega
          have ewl : wl f m = N := by rw [em, wl_end, hN.out]
          rw [ewl]
          have m1 : ¬ (m : Int) + 1 ≤ 200 := by omega
          have TA := Lib.hid (told_any wa)
          have BE : Hid (Below w.heap.size w wa) := (M2.out.below be).be
          clear be ewl em hm hm2
          go_wp2_with fail
          refine TA.out.mono ?_
          rintro e w3 ⟨rfl, b3⟩
          have B3 : Hid (Below w.heap.size w w3) := BE.out.trans (b3.mono BE.out.size)
          clear TA b3
          go_wp2
          go_ret
          exact ⟨rfl, B3.out⟩
theorem walkd {w : World} (v : Value) (l : List Pt) (hv : Osrc w v l) (w' : World) (hw : w' = w) : Calls Try.prog 3 #[v] w' fun e W => e = .returned (.bool true) ∧ Below w'.heap.size w' W := by
  subst hw
  obtain ⟨A, n, c, rfl, h1, h2, R⟩ := hv
  exact walk w' A n c l R (by omega)


/-! The row: every input. -/
set_option linter.unusedVariables false
set_option maxRecDepth 100000 in
theorem lifted (os : Os) (started : os.Started) (H : Type) (enc : TypeId × Value → H) :
    ReturnsInHanded {} Try.checked os 3 .any (Rows.tablePlaysSpec.pre6 enc Try.prog Try.f3 Rows.tablePlaysRow.domain false) (Rows.tablePlaysSpec.post enc Try.prog Try.f3 false true false false) := by
  refine returnsInHanded_of_change (C := Try.checked) own started (by kernel_rfl) Try.func3
    (ChangeSpec.witness6 (enc := enc) (C := Try.checked) false ⟨#[], #[.slice none 0 0], []⟩ 8 (by kernel_rfl) (by kernel_rfl) (by kernel_rfl) (by kernel_rfl)) ?_
  intro W base args ds gs before hval0 hW _ _
  have hval : ∀ (j : Nat) t v, Try.f3.params[j]? = some t → args[j]? = some v → Value.okWide Try.prog W .any base t v := hval0
  have hW' := hW
  obtain ⟨p, q, hA0, hV, rfl, hfz, hnd⟩ := hW
  have hA : DataW.TrodAll enc Try.prog W 0 (fun _ => true) true Try.f3.params.toList args.toList ds p := hA0
  rw [Try.params3] at hA hval
  obtain ⟨v0, vs0, d0, ds0, p0, q0, hargs, rfl, rfl, h0, r0⟩ := trodAll_cons hA
  obtain ⟨rfl, rfl, rfl⟩ := trodAll_nil r0
  obtain rfl : args = #[v0] := by cases args; simp_all
  obtain ⟨rfl, rfl⟩ := trodVars_none hV
  obtain ⟨a0, w0⟩ := view_puts (hval 0 22 v0 rfl rfl) h0
  clear hA0 hval0
  simp only [List.append_nil] at hW'
  refine (walkd v0 a0 w0 W rfl).mono fun e W' ⟨he, hb⟩ => ?_
  subst he
  exact ⟨_, rfl, post_below (pa := p0 ++ []) (pv := []) hW' (fun _ _ _ => (trodAll_cons_mk (shut_bool Try.underlying4 _) trodAll_mk0)) (fun sp hsp => (trodAll_cons_mk (Trod_stays laidOut (by kernel_rfl) (of_decide_eq_true (by kernel_rfl)) h0 (fun x hx => hb.same (hW'.lt x (by simp [hx]))) (fun x hx => hsp x (by simp [hx]))) trodAll_mk0)) (fun _ _ => rfl) (by simp)
    hb (ok_one (by kernel_rfl) rfl (okWide_bool_mk Try.underlying4 _))⟩

theorem proved : Rows.TablePlaysSaid :=
  OpenClaim.holds_of_wide 3 Try.f3 rfl rfl rfl rfl rfl rfl rfl ⟨rfl, rfl, rfl, rfl, rfl⟩ rfl rfl rfl rfl rfl (by kernel_rfl) Try.func3 (by kernel_rfl)
    (of_decide_eq_true (by kernel_rfl)) (by unfold Func.isWrapper; first | (rw [if_pos (by decide +kernel)]; kernel_rfl) | (rw [if_neg (by decide +kernel)]; exact ⟨rfl, rfl⟩))
    (fun os started H enc _ => lifted os started H enc)
#print axioms proved

end Go.Proofs.Ytiplhdeomlmpkaa.tablePlays
