/- drop, first. -/
import Derived.Test.YtbolcapgocjgcaaGreatDoorDkD
namespace Go.Proofs.YtbolcapgocjgcaaGreatDoor
set_option maxRecDepth 100000
open Go.RowKit
open Go.Proofs.YtbolcapgocjgcaaGreatDoor.Pk
namespace Dk

/-- What drop leaves. -/
def DropTo (n : Bs) (w : World) (p room : Nat) (mo : Option Nat) (l : Fls) (fp : Nat → Prop) (w' : World) : Prop :=
  Dsk none w' p room mo (del n l) fp ∧ Kp fp w w' ∧ ∀ (v : Value) (k : Nat) (xs : List Value), w.ownsRow 0 5 1 v k xs → w'.ownsRow 0 5 1 v k xs

theorem drop_last {n : Bs} {W w3 w4 : World} {p room m N : Nat} {l : Fls} {fp : Nat → Prop} (D : Dsk none W p room (some m) l fp)
    (h3 : w3.heap[p]? = some (.cells #[.int .i64 room, .int .i64 (sum use (del n l) : Nat), .map (some m)] 64 (0, 0))) (g3 : W.grownBy w3 (some p))
    (h4 : w4.ownsMap Tryz.prog 9 Rdv m N ((dat cell l).del (.string n))) (g4 : w3.grownBy w4 (some m)) : DropTo n W p room (some m) l fp w4 := by
  have hM := D.map.some_
  have hpm : p ≠ m := ne_map hM D.cells
  have hk4 : ∀ g, g < W.heap.size → g ≠ p → g ≠ m → w4.heap[g]? = W.heap[g]? := fun g hg h1 h2 =>
    (g4.block g (Nat.lt_of_lt_of_le hg g3.size) (fun e => h2 (by injection e))).trans (g3.block g hg (fun e => h1 (by injection e)))
  have hrow : ∀ (v : Value) (k : Nat) (xs : List Value), W.ownsRow 0 5 1 v k xs → w4.ownsRow 0 5 1 v k xs := fun v k xs h => own_same h fun g hg => by
    obtain ⟨_, cur, hc⟩ := own_block h hg
    exact hk4 g (lt_some hc) (row_neq_disk hc D.cells) (ne_map hM hc)
  have hsum := sum_del use n D.rise
  have hfits := D.fits
  refine ⟨⟨(g4.block p (lt_some h3) (fun e => hpm (by injection e))).trans h3, .inr ⟨m, N, rfl, by rw [← dat_del cell n l]; exact h4⟩, rise_del D.rise n, D.pin, D.min_, fun q hq => D.head q (mem_del.1 hq).1, fun q hq h => ?_,
    fun q hq q' hq' => D.apart q (mem_del.1 hq).1 q' (mem_del.1 hq').1, by omega, D.most, fun g hg => ?_⟩, ?_, hrow⟩
  · have := D.rows q (mem_del.1 hq).1 h
    exact ⟨hrow _ _ _ this.1, this.2⟩
  · exact Nat.lt_of_lt_of_le (D.size g hg) (Nat.le_trans g3.size g4.size)
  · exact ⟨g4.os.trans g3.os, g4.tape.trans g3.tape, g4.output.trans g3.output, Nat.le_trans g3.size g4.size, fun g hg hn => hk4 g hg (fun e => hn (e ▸ D.pin)) (fun e => hn (e ▸ D.min_ m rfl))⟩

set_option maxHeartbeats 1600000 in
set_option maxRecDepth 20000 in
theorem drop_any (s : ByteArray) (w : World) (p room m : Nat) (l : Fls) (fp : Nat → Prop) (D : Dsk none w p room (some m) l fp) (hs : s.size ≤ maxLen) :
    Calls Tryz.prog 51 #[.pointer (some ⟨p, 0, none⟩), .string s] w fun e w' => e = .returned (.tuple #[]) ∧ DropTo (nm s) w p room (some m) l fp w' := by
  obtain ⟨A0, c0, hv0, _, _, _⟩ := look_form D (nm s)
  have hsum := sum_del use (nm s) D.rise
  have hmost := D.most
  have hfits := D.fits
  have c1 : w.cell? ⟨p, 1, none⟩ = some (.int .i64 (sum use l : Nat)) := one_at (i := 1) D.cells
  have c2 : w.cell? ⟨p, 2, none⟩ = some (.map (some m)) := one_at (i := 2) D.cells
  have f1 : w.frozen? ⟨p, 1, none⟩ = false := one_free D.cells
  have L := look_run w.drew (some m) l s D.map hs
  rw [hv0] at L
  have e1 : wrap64 (((sum use l : Nat) : Int) - (((look (nm s) l).elim 0 use : Nat) : Int)) = ((sum use (del (nm s) l) : Nat) : Int) := by
    rw [IntWalk.wrap64_in _ (by omega)]
    omega
  generalize (look (nm s) l).elim 0 use = o at L e1
  generalize ((look (nm s) l).elim 0 Fil.k : Nat) = k0 at L
  generalize sum use l = u at c1 e1
  replace D := Lib.hid D
  replace hs := Lib.hid hs
  have FF := field_run A0 o c0
  clear hv0 hsum hmost hfits
  have h3 : Hid ((w.setCell ⟨p, 1, none⟩ (.int .i64 (sum use (del (nm s) l) : Nat))).drew.heap[p]? = some (.cells #[.int .i64 room, .int .i64 (sum use (del (nm s) l) : Nat), .map (some m)] 64 (0, 0))) := Pk.one_set D.out.cells (.int .i64 (sum use (del (nm s) l) : Nat))
  have g3 : Hid (w.grownBy (w.setCell ⟨p, 1, none⟩ (.int .i64 (sum use (del (nm s) l) : Nat))).drew (some p)) := grown_drew (grown_set w p 1 _)
  go_enter Tryz.func51, Tryz.ntmps51
  go_wp2
  go_region
  generalize (w.setCell ⟨p, 1, none⟩ (.int .i64 (sum use (del (nm s) l) : Nat))).drew = w3 at *
  have hM := D.out.map.some_
  have hM3 : Hid (w3.ownsMap Tryz.prog 9 Rdv m l.length (dat cell l)) := hM.kept g3.out (fun e => ne_map hM D.out.cells (by injection e with e; exact e.symm))
  have hk := Lib.hid (key_nm hs.out)
  have d2 : w3.cell? ⟨p, 2, none⟩ = some (.map (some m)) := one_at (i := 2) h3.out
  clear hM c1 c2 f1 L e1 FF
  go_wp2_with (first | (at_delete; refine wpList_delete_own _ rfl _ _ 62 9 rfl 88 law Tryz.underlying62 _ m l.length _ rfl hM3.out _ _ rfl hk.out ?_; intro w4 hown4 hturn4; have E := Lib.hid (drop_last D.out h3.out g3.out hown4 hturn4.grown); clear hown4 hturn4))
  go_end0
  exact ⟨rfl, E.out⟩

/-- What first answers. -/
def FirstTo (w : World) (bs : Bs) (e : Ending) (w' : World) : Prop :=
  ∃ v, e = .returned (.agg #[v, .int .i64 bs.length]) ∧ w'.ownsRow w.heap.size 5 1 v bs.length (u8s bs) ∧ Below w.heap.size w w'
theorem wpList_store_row {P : Program} {ops : Array Oper} {rest : List Oper} {o : Oper} {a : Act} {w : World} {Q : Exit → Act → World → Prop} (hgd : o.guard = none) (ty : TypeId) (x y : Operand) (ho : o.op = .store ty x y)
    (g : Nat) (cells : Array Value) (hx : a.eval x = .pointer (some ⟨g, 0, none⟩)) (hy : a.eval y = .agg cells)
    (t : TypeId) (old : Array Value) (hg : w.heap[g]? = some (.cells old t (0, 0))) (hi : (P.info? ty).map (·.size) = some cells.size)
    (hold : old.size = cells.size) (h1 : cells.all (·.oneCell') = true)
    (h : wpList P ops Q rest (a.put o.dst undef) (w.setRow g cells)) : wpList P ops Q (o :: rest) a w :=
  wpList_plain hgd fun _ hK => wp_store_row ty x y ho g cells hx hy t old hg hi hold h1 (hK _ _ h)
set_option maxHeartbeats 800000 in
theorem first_none (w : World) (k : Int) : Calls Tryz.prog 47 #[.agg #[.slice none 0 0, .int .i64 k], .int .i64 0] w (FirstTo w []) := by
  have C := Lib.hid (clone_nil ((w.alloc (.cells #[.slice none 0 0, .int .i64 k] 88)).alloc (.cells #[.slice none 0 0, .int .i64 0] 88)))
  go_enter Tryz.func47, Tryz.ntmps47
  go_wp2_with fail
  refine C.out.mono ?_
  rintro e w2 ⟨v, rfl, hown, hb2⟩
  have hl2 : w2.heap[w.heap.size + 1]? = some (.cells #[.slice none 0 0, .int .i64 0] 88 (0, 0)) := (hb2.block _ (by simp)).trans (heap_alloc2_new _ _ _)
  have B2 : Hid (Below w.heap.size w (w2.setRow (w.heap.size + 1) #[v, .int .i64 0])) := (((Below.refl _ w).alloc (Nat.le_refl _) _).alloc (by simp) _).trans ((hb2.mono (by simp; omega)).trans ⟨rfl, rfl, rfl, by simp [World.setRow], fun k hk => setRow_other w2 _ k _ (by omega)⟩)
  obtain ⟨A', c', rfl⟩ := own_form hown
  have O : Hid ((w2.setRow (w.heap.size + 1) #[.slice A' 0 c', .int .i64 0]).ownsRow w.heap.size 5 1 (.slice A' 0 c') 0 (u8s [])) := own_mono (own_same hown fun g hg => setRow_other w2 _ g _ (by
    have := (own_block hown hg).1
    simp at this
    omega)) (by simp; omega)
  have hl3 : Hid ((w2.setRow (w.heap.size + 1) #[.slice A' 0 c', .int .i64 0]).heap[w.heap.size + 1]? = some (.cells #[.slice A' 0 c', .int .i64 0] 88 (0, 0))) := setRow_heap _ _ _ _ _ _ hl2
  replace hl2 := Lib.hid hl2
  clear hown hb2 C
  go_wp2_with (refine wpList_store_row rfl 88 (.tmp 4) (.tmp 11) rfl (w.heap.size + 1) #[.slice A' 0 c', .int .i64 0] rfl rfl 88 #[.slice none 0 0, .int .i64 0] hl2.out file_info rfl (by simp [Value.oneCell']) ?_)
  refine bodyPost_ret (results_cell_row first_results _ _ (w.heap.size + 1) 88 #[.slice A' 0 c', .int .i64 0] (0, 0) _ rfl hl3.out Tryz.underlying88 rfl file_info) rfl ?_
  exact ⟨_, rfl, O.out, B2.out⟩
set_option maxHeartbeats 800000 in
theorem first_some (w : World) (a : Addr) (n c j : Nat) (k : Int) (bs : Bs) (h : Rb w (Row w) (some a) n bs) (hj : j ≤ n) (hn : n ≤ 1000000) (hnc : n ≤ c) (hc : c ≤ 9223372036854775807) :
    Calls Tryz.prog 47 #[.agg #[.slice (some a) n c, .int .i64 k], .int .i64 j] w (FirstTo w (bs.take j)) := by
  have hlen : (bs.take j).length = j := by rw [List.length_take, h.len]; omega
  have R := (h.take hj).row (w' := (w.alloc (.cells #[.slice (some a) n c, .int .i64 k] 88)).alloc (.cells #[.slice none 0 0, .int .i64 0] 88)) (fun g hg => (heap_alloc_old _ _ (by simp; have := hg.lt; omega)).trans (heap_alloc_old _ _ hg.lt))
  have C := Lib.hid (clone_any _ (some a) j c (bs.take j) R (fun g hg => hg.lt) (by omega) (fun e => by cases e))
  have i1 : (0 : Int) ≤ (j : Int) := by omega
  have i2 : (j : Int) ≤ (c : Int) := by omega
  have i3 : (j : Int) ≤ 9223372036854775807 := by omega
  replace hlen := Lib.hid hlen
  clear R h hj hn
  go_enter Tryz.func47, Tryz.ntmps47
  go_wp2_with fail
  refine C.out.mono ?_
  rintro e w2 ⟨v, rfl, hown, hb2⟩
  have hl2 : w2.heap[w.heap.size + 1]? = some (.cells #[.slice none 0 0, .int .i64 0] 88 (0, 0)) := (hb2.block _ (by simp)).trans (heap_alloc2_new _ _ _)
  have B2 : Hid (Below w.heap.size w (w2.setRow (w.heap.size + 1) #[v, .int .i64 j])) := (((Below.refl _ w).alloc (Nat.le_refl _) _).alloc (by simp) _).trans ((hb2.mono (by simp; omega)).trans ⟨rfl, rfl, rfl, by simp [World.setRow], fun k hk => setRow_other w2 _ k _ (by omega)⟩)
  obtain ⟨A', c', rfl⟩ := own_form hown
  have O : Hid ((w2.setRow (w.heap.size + 1) #[.slice A' j c', .int .i64 j]).ownsRow w.heap.size 5 1 (.slice A' j c') j (u8s (bs.take j))) := own_mono (own_same hown fun g hg => setRow_other w2 _ g _ (by
    have := (own_block hown hg).1
    simp at this
    omega)) (by simp; omega)
  have hl3 : Hid ((w2.setRow (w.heap.size + 1) #[.slice A' j c', .int .i64 j]).heap[w.heap.size + 1]? = some (.cells #[.slice A' j c', .int .i64 j] 88 (0, 0))) := setRow_heap _ _ _ _ _ _ hl2
  replace hl2 := Lib.hid hl2
  clear hown hb2 C
  go_wp2_with (refine wpList_store_row rfl 88 (.tmp 4) (.tmp 11) rfl (w.heap.size + 1) #[.slice A' j c', .int .i64 j] rfl rfl 88 #[.slice none 0 0, .int .i64 0] hl2.out file_info rfl (by simp [Value.oneCell']) ?_)
  refine bodyPost_ret (results_cell_row first_results _ _ (w.heap.size + 1) 88 #[.slice A' j c', .int .i64 j] (0, 0) _ rfl hl3.out Tryz.underlying88 rfl file_info) rfl ?_
  have hL := hlen.out
  exact ⟨.slice A' j c', by rw [hL], by rw [hL]; exact O.out, B2.out⟩
theorem first_any (w : World) (A : Option Addr) (n c j : Nat) (k : Int) (bs : Bs) (h : Rb w (Row w) A n bs) (hj : j ≤ n) (hn : n ≤ 1000000) (hnc : n ≤ c) (hc : c ≤ 9223372036854775807) (hA : A = none → c = 0) :
    Calls Tryz.prog 47 #[.agg #[.slice A n c, .int .i64 k], .int .i64 j] w (FirstTo w (bs.take j)) := by
  cases A with
  | some a => exact first_some w a n c j k bs h hj hn hnc hc
  | none =>
    obtain rfl := hA rfl
    obtain rfl : n = 0 := by omega
    obtain rfl : j = 0 := by omega
    exact first_none w k
end Dk
end Go.Proofs.YtbolcapgocjgcaaGreatDoor
