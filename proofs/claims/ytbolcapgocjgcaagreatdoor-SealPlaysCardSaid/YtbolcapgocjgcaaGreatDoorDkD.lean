/- put, drop, first. -/
import Derived.Test.YtbolcapgocjgcaaGreatDoorDkC
import Derived.BigRegion
import Derived.RegionTactic
namespace Go.Proofs.YtbolcapgocjgcaaGreatDoor
set_option maxRecDepth 100000
open Go.RowKit
open Go.Proofs.YtbolcapgocjgcaaGreatDoor.Pk
namespace Dk

theorem map_block {w : World} {m N : Nat} {D : DataW Value} (h : w.ownsMap Tryz.prog 9 Rdv m N D) : ∃ es clock, w.heap[m]? = some (.map es clock) := by
  obtain ⟨es, clock, hb, _⟩ := h
  exact ⟨es, clock, hb⟩
theorem ne_map {w : World} {m N g : Nat} {D : DataW Value} {cs : Array Value} {t : TypeId} {fr : Nat × Nat} (h : w.ownsMap Tryz.prog 9 Rdv m N D) (hg : w.heap[g]? = some (.cells cs t fr)) : g ≠ m := by
  rintro rfl
  obtain ⟨es, clock, hb⟩ := map_block h
  rw [hb] at hg
  injection hg with hg
  cases hg
theorem MapAt.some_ {w : World} {m : Nat} {l : Fls} (h : MapAt w (some m) l) : w.ownsMap Tryz.prog 9 Rdv m l.length (dat cell l) := by
  rcases h with ⟨h, _⟩ | ⟨m', n, e, h⟩
  · cases h
  · injection e with e
    subst e
    obtain ⟨es, clock, hb, F, _, hD⟩ := h
    refine ⟨es, clock, hb, F, ?_, hD⟩
    have := dat_size cell l
    rw [hD] at this
    simp [Maps.size, length_sorted] at this
    omega

theorem grown_drew {w w' : World} {o : Option Nat} (h : w.grownBy w' o) : w.grownBy w'.drew o := ⟨h.os, h.tape, h.output, h.size, h.block⟩
theorem drew_grown {w w' : World} {o : Option Nat} (h : w.drew.grownBy w' o) : w.grownBy w' o := ⟨h.os, h.tape, h.output, h.size, h.block⟩
theorem put_last {n : Bs} {W w3 w4 : World} {p room m N : Nat} {l : Fls} {fp : Nat → Prop} (D : Dsk (some n) W p room (some m) l fp) (f : Fil) (hf : W.ownsRow 0 5 1 f.v f.s.length (u8s f.s)) (hfp : ∀ g, f.v.ownBlock = some g → fp g)
    (hap : ∀ q ∈ l, q.1 ≠ n → ∀ g, f.v.ownBlock = some g → q.2.v.ownBlock ≠ some g) (hn : n.length ≤ 20) (hk : f.k ≤ f.s.length) (hr : sum use (put n f l) ≤ room)
    (h3 : w3.heap[p]? = some (.cells #[.int .i64 room, .int .i64 (sum use (put n f l) : Nat), .map (some m)] 64 (0, 0))) (g3 : W.grownBy w3 (some p))
    (h4 : w4.ownsMap Tryz.prog 9 Rdv m N ((dat cell l).put (.string n) (.held (cell f)))) (g4 : w3.grownBy w4 (some m)) : Dsk none w4 p room (some m) (put n f l) fp ∧ Kp fp W w4 := by
  have hM := D.map.some_
  have hpm : p ≠ m := ne_map hM D.cells
  have hk4 : ∀ g, g < W.heap.size → g ≠ p → g ≠ m → w4.heap[g]? = W.heap[g]? := fun g hg h1 h2 =>
    (g4.block g (Nat.lt_of_lt_of_le hg g3.size) (fun e => h2 (by injection e))).trans (g3.block g hg (fun e => h1 (by injection e)))
  have hrow : ∀ {v : Value} {k : Nat} {xs : List Value}, W.ownsRow 0 5 1 v k xs → w4.ownsRow 0 5 1 v k xs := fun h => own_same h fun g hg => by
    obtain ⟨_, cur, hc⟩ := own_block h hg
    exact hk4 g (lt_some hc) (row_neq_disk hc D.cells) (ne_map hM hc)
  refine ⟨⟨(g4.block p (lt_some h3) (fun e => hpm (by injection e))).trans h3, .inr ⟨m, N, rfl, by rw [← dat_put cell n f D.rise]; exact h4⟩, rise_put D.rise n f, D.pin, D.min_, fun q hq => ?_, fun q hq _ => ?_, fun q hq q' hq' hne _ _ g hg => ?_, hr, D.most, fun g hg => ?_⟩, ?_⟩
  · rcases mem_put D.rise q hq with rfl | ⟨hq, _⟩
    · exact ⟨own_head hf, hn, hk⟩
    · exact D.head q hq
  · rcases mem_put D.rise q hq with rfl | ⟨hq, hne⟩
    · exact ⟨hrow hf, hfp⟩
    · have := D.rows q hq (fun e => hne (by injection e))
      exact ⟨hrow this.1, this.2⟩
  · rcases mem_put D.rise q hq with rfl | ⟨hq, h1⟩ <;> rcases mem_put D.rise q' hq' with rfl | ⟨hq', h2⟩
    · exact absurd rfl hne
    · exact hap q' hq' h2 g hg
    · exact fun e => hap q hq h1 g e hg
    · exact D.apart q hq q' hq' hne (fun e => h1 (by injection e)) (fun e => h2 (by injection e)) g hg
  · exact Nat.lt_of_lt_of_le (D.size g hg) (Nat.le_trans g3.size g4.size)
  · exact ⟨g4.os.trans g3.os, g4.tape.trans g3.tape, g4.output.trans g3.output, Nat.le_trans g3.size g4.size, fun g hg hn => hk4 g hg (fun e => hn (e ▸ D.pin)) (fun e => hn (e ▸ D.min_ m rfl))⟩

theorem map_nil_run (mo : Option Nat) (w : World) : (binOp .eql 62 (.map mo) (.map none)).run Tryz.prog w = .ok (.bool mo.isNone) w := by
  have h : ∀ d : Nat, (Op.equalIn (d + 1) 62 (.map mo) (.map none)).run Tryz.prog w = .ok mo.isNone w := fun d => by
    cases mo <;> simp [Op.equalIn, run_underlying Tryz.underlying62]
  simp only [binOp]
  simp [Op.equal, Op.maxDepth, h 9999]
theorem field_run (A : Option Addr) (n c : Nat) (k : Int) (w : World) : (Instr.field 88 (.agg #[.slice A n c, .int .i64 k]) 0).run Tryz.prog w = .ok (.slice A n c) w := by kernel_rfl
/-- What put asks of a file. -/
structure Fits (n : Bs) (w : World) (l : Fls) (room : Nat) (fp : Nat → Prop) (f : Fil) : Prop where
  row : w.ownsRow 0 5 1 f.v f.s.length (u8s f.s)
  in_ : ∀ g, f.v.ownBlock = some g → fp g
  apart : ∀ q ∈ l, q.1 ≠ n → ∀ g, f.v.ownBlock = some g → q.2.v.ownBlock ≠ some g
  name : n.length ≤ 20
  sync : f.k ≤ f.s.length
  room : sum use (put n f l) ≤ room
/-- What put leaves. -/
def PutTo (n : Bs) (f : Fil) (w : World) (p room : Nat) (l : Fls) (fp : Nat → Prop) (w' : World) : Prop := ∃ mo, Dsk none w' p room mo (put n f l) (gr fp w w') ∧ Kp fp w w'

set_option maxHeartbeats 1600000 in
set_option maxRecDepth 20000 in
theorem put_some (s : ByteArray) (w : World) (p room m : Nat) (l : Fls) (fp : Nat → Prop) (f : Fil) (D : Dsk (some (nm s)) w p room (some m) l fp) (F : Fits (nm s) w l room fp f) (hl : l.length ≤ 1000000) :
    Calls Tryz.prog 46 #[.pointer (some ⟨p, 0, none⟩), .string s, .agg #[f.v, .int .i64 f.k]] w fun e w' => e = .returned (.tuple #[]) ∧ PutTo (nm s) f w p room l fp w' := by
  obtain ⟨A, c, hv, hc1, hc2, _⟩ := own_head F.row
  have hs : s.size ≤ maxLen := by have := F.name; simp only [nm, Array.length_toList] at this; unfold maxLen; show s.data.size ≤ _; omega
  obtain ⟨A0, c0, hv0, hd1, hd2, _⟩ := look_form D (nm s)
  obtain ⟨hu1, hu2⟩ := look_use D (nm s)
  have hsum := sum_put use (nm s) f D.rise
  have hroom := F.room
  have hmost := D.most
  have hfl : f.s.length ≤ sum use (put (nm s) f l) := le_sum use (look_mem (look_put_same (nm s) f l))
  have hfits := D.fits
  have hp := lt_some D.cells
  have c1 : w.cell? ⟨p, 1, none⟩ = some (.int .i64 (sum use l : Nat)) := one_at (i := 1) D.cells
  have c2 : w.cell? ⟨p, 2, none⟩ = some (.map (some m)) := one_at (i := 2) D.cells
  have f1 : w.frozen? ⟨p, 1, none⟩ = false := one_free D.cells
  rw [hv]
  obtain ⟨sl, hsl⟩ : ∃ z, z = f.s.length := ⟨_, rfl⟩
  obtain ⟨sk, hsk⟩ : ∃ z, z = f.k := ⟨_, rfl⟩
  obtain ⟨u, hu⟩ : ∃ z, z = sum use l := ⟨_, rfl⟩
  obtain ⟨o, ho⟩ : ∃ z, z = (look (nm s) l).elim 0 use := ⟨_, rfl⟩
  rw [← hsl, ← hsk]
  rw [← hu] at c1
  rw [← ho] at hv0
  have hx : sum use (put (nm s) f l) + o = u + sl := by rw [hu, ho, hsl]; exact hsum
  have hB : Hid (Below w.heap.size w (w.alloc (.cells #[.slice A sl c, .int .i64 sk] 88))) := (Below.refl _ _).alloc (Nat.le_refl _) _
  have hnew : Hid ((w.alloc (.cells #[.slice A sl c, .int .i64 sk] 88)).heap[w.heap.size]? = some (.cells #[.slice A sl c, .int .i64 sk] 88 (0, 0))) := heap_alloc_new _ _
  rw [← hsl] at hfl
  have X : Hid (sum use (put (nm s) f l) + o = u + sl ∧ sl ≤ room ∧ u ≤ room ∧ room ≤ 1000000 ∧ o ≤ room ∧ sum use (put (nm s) f l) ≤ room) := ⟨hx, by omega, by omega, hmost, by omega, hroom⟩
  have Y : Hid (sl = f.s.length ∧ sk = f.k ∧ u = sum use l) := ⟨hsl, hsk, hu⟩
  replace D := Lib.hid D
  replace F := Lib.hid F
  replace hl := Lib.hid hl
  replace hs := Lib.hid hs
  replace hv := Lib.hid hv
  replace hv0 := Lib.hid hv0
  clear hsl hsk hu ho hx hsum hroom hmost hfits hu1 hu2 hd1 hd2 hc1 hc2 hfl
  have FF := field_run A0 o c0
  have NN := map_nil_run (some m)
  simp only [Option.isNone] at NN
  go_enter Tryz.func46, Tryz.ntmps46
  go_wp2
  generalize w.alloc (.cells #[.slice A sl c, .int .i64 sk] 88) = W at *
  have D1 : Hid (Dsk (some (nm s)) W p room (some m) l fp) := D.out.below hB.out
  have b0 : W.cell? ⟨w.heap.size, 0, none⟩ = some (.slice A sl c) := one_at (i := 0) hnew.out
  have b1 : W.cell? ⟨w.heap.size, 1, none⟩ = some (.int .i64 sk) := one_at (i := 1) hnew.out
  have L : Hid ((Instr.lookup 62 (.map (some m)) (.string s) false).run Tryz.prog W.drew = .ok (.agg #[.slice A0 o c0, .int .i64 ((look (nm s) l).elim 0 Fil.k : Nat)]) W.drew) := by
    have := look_run W.drew (some m) l s D1.out.map hs.out
    rw [hv0.out] at this
    exact this
  have d1 : W.cell? ⟨p, 1, none⟩ = some (.int .i64 u) := by rw [Y.out.2.2]; exact one_at (i := 1) D1.out.cells
  have d2 : W.cell? ⟨p, 2, none⟩ = some (.map (some m)) := one_at (i := 2) D1.out.cells
  have g1 : W.frozen? ⟨p, 1, none⟩ = false := one_free D1.out.cells
  generalize ((look (nm s) l).elim 0 Fil.k : Nat) = k0 at L
  generalize hq : w.heap.size = q at b0 b1 hnew ⊢
  clear c1 c2 f1 hp
  have L' := L.out
  have e1 : wrap64 ((u : Int) + wrap64 ((sl : Int) - (o : Int))) = (sum use (put (nm s) f l) : Nat) := by
    obtain ⟨x1, x2, x3, x4, x5, x6⟩ := X.out
    have : wrap64 ((sl : Int) - (o : Int)) = (sl : Int) - (o : Int) := IntWalk.wrap64_in _ (by omega)
    rw [this, IntWalk.wrap64_in _ (by omega)]
    omega
  go_region
  clear b0 b1 d1 d2 g1 L L' FF
  obtain ⟨w3, hw3⟩ : ∃ z, z = (W.setCell ⟨p, 1, none⟩ (.int .i64 (sum use (put (nm s) f l) : Nat))).drew := ⟨_, rfl⟩
  have h3 : Hid (w3.heap[p]? = some (.cells #[.int .i64 room, .int .i64 (sum use (put (nm s) f l) : Nat), .map (some m)] 64 (0, 0))) := by
    rw [hw3]
    exact Pk.one_set D1.out.cells (.int .i64 (sum use (put (nm s) f l) : Nat))
  have g3 : Hid (W.grownBy w3 (some p)) := by rw [hw3]; exact grown_drew (grown_set W p 1 _)
  go_wp2
  rw [← hw3]
  have H3 : Hid (w3.heap[q]? = some (.cells #[.slice A sl c, .int .i64 sk] 88 (0, 0))) := (g3.out.block q (lt_some hnew.out) (fun e => by
      injection e with e
      subst e
      have h1 := hnew.out
      rw [D1.out.cells] at h1
      injection h1 with h1
      injection h1 with _ e
      exact absurd e (by decide))).trans hnew.out
  clear hw3
  have hM := D1.out.map.some_
  have hM3 : w3.drew.ownsMap Tryz.prog 9 Rdv m l.length (dat cell l) := (hM.kept g3.out (fun e => ne_map hM D1.out.cells (by injection e with e; exact e.symm))).drew
  obtain ⟨w4, hrun, hM4, g4⟩ := hM3.update law Tryz.underlying62 (by have := hl.out; unfold maxLen; omega) (key_nm hs.out) (val := .agg #[.slice A sl c, .int .i64 sk]) (d := .held (.agg #[.slice A sl c, .int .i64 sk])) (ps := []) rfl
  have hcell : cell f = .agg #[.slice A sl c, .int .i64 sk] := by unfold cell; rw [hv.out, ← Y.out.1, ← Y.out.2.1]
  rw [← hcell] at hM4
  have P := put_last D1.out f (own_same F.out.row (fun g hg => hB.out.block g ?h1)) F.out.in_ F.out.apart F.out.name F.out.sync F.out.room h3.out g3.out hM4 (drew_grown g4)
  case h1 =>
    obtain ⟨_, cur, hcur⟩ := own_block F.out.row hg
    exact lt_some hcur
  have E : Hid (PutTo (nm s) f w p room l fp w4) := by
    obtain ⟨P1, P2⟩ := P
    have hgr : ∀ g, fp g → gr fp w w4 g := fun g hg => .inl hg
    refine ⟨some m, P1.mono hgr fun g hg => ?_, (Kp.of_below hB.out).trans' P2⟩
    rcases hg with hg | ⟨_, hg⟩
    · exact P1.size g hg
    · exact hg
  have b0 : w3.cell? ⟨q, 0, none⟩ = some (.slice A sl c) := one_at (i := 0) (H3.out)
  have b1 : w3.cell? ⟨q, 1, none⟩ = some (.int .i64 sk) := one_at (i := 1) (H3.out)
  have d2 : w3.cell? ⟨p, 2, none⟩ = some (.map (some m)) := one_at (i := 2) h3.out
  clear hM hM3 hM4 g4 hcell P
  go_region
  go_end0
  exact ⟨rfl, E.out⟩
theorem made {n : Bs} {w : World} {p room : Nat} {l : Fls} {fp : Nat → Prop} {f : Fil} {A : Option Addr} {sl c sk : Nat} (D : Dsk (some n) w p room none l fp) (F : Fits n w l room fp f) :
    Dsk (some n) (((w.setCell ⟨p, 2, none⟩ (.map (some (w.heap.size + 1)))).alloc (.cells #[.slice A sl c, .int .i64 sk] 88)).alloc (.map #[] 0)) p room (some (w.heap.size + 1)) l (fun g => fp g ∨ g = w.heap.size + 1) ∧ Fits n (((w.setCell ⟨p, 2, none⟩ (.map (some (w.heap.size + 1)))).alloc (.cells #[.slice A sl c, .int .i64 sk] 88)).alloc (.map #[] 0)) l room (fun g => fp g ∨ g = w.heap.size + 1) f := by
  obtain ⟨v, hv⟩ : ∃ z, z = Value.map (some (w.heap.size + 1)) := ⟨_, rfl⟩
  have hl : l = [] := by
    rcases D.map with ⟨_, h⟩ | ⟨m, _, h, _⟩
    · exact h
    · cases h
  subst hl
  have e1 : (w.setCell ⟨p, 2, none⟩ v).heap.size = w.heap.size := by simp [World.setCell]
  have hk : ∀ g, g < w.heap.size → g ≠ p → (((w.setCell ⟨p, 2, none⟩ v).alloc (.cells #[.slice A sl c, .int .i64 sk] 88)).alloc (.map #[] 0)).heap[g]? = w.heap[g]? := fun g hg hne => by
    rw [heap_alloc_old _ _ (by simp [e1]; omega), heap_alloc_old _ _ (by omega)]
    exact Below.heap_setCell _ _ _ _ hne
  have hp : (((w.setCell ⟨p, 2, none⟩ v).alloc (.cells #[.slice A sl c, .int .i64 sk] 88)).alloc (.map #[] 0)).heap[p]? = some (.cells #[.int .i64 room, .int .i64 (sum use ([] : Fls) : Nat), v] 64 (0, 0)) := by
    have hl := lt_some D.cells
    rw [heap_alloc_old _ _ (by simp [e1]; omega), heap_alloc_old _ _ (by omega)]
    exact Pk.one_set D.cells v
  have hm : (((w.setCell ⟨p, 2, none⟩ v).alloc (.cells #[.slice A sl c, .int .i64 sk] 88)).alloc (.map #[] 0)).ownsMap Tryz.prog 9 Rdv (w.heap.size + 1) 0 (.map []) := by
    have := World.ownsMap_made ((w.setCell ⟨p, 2, none⟩ v).alloc (.cells #[.slice A sl c, .int .i64 sk] 88)) Tryz.prog 9 Rdv
    simpa [e1] using this
  have hz : (((w.setCell ⟨p, 2, none⟩ v).alloc (.cells #[.slice A sl c, .int .i64 sk] 88)).alloc (.map #[] 0)).heap.size = w.heap.size + 2 := by simp [e1]
  rw [← hv]
  generalize (((w.setCell ⟨p, 2, none⟩ v).alloc (.cells #[.slice A sl c, .int .i64 sk] 88)).alloc (.map #[] 0)) = W at *
  subst hv
  refine ⟨⟨hp, .inr ⟨_, _, rfl, hm⟩, rise_nil, .inl D.pin, fun m e => .inr (by injection e with e; exact e.symm), fun q hq => (nomatch hq), fun q hq => (nomatch hq), fun q hq => (nomatch hq), D.fits, D.most, fun g hg => ?_⟩,
    ⟨own_same F.row fun g hg => ?_, fun g hg => .inl (F.in_ g hg), fun q hq => (nomatch hq), F.name, F.sync, F.room⟩⟩
  · rcases hg with hg | rfl
    · have := D.size g hg; omega
    · omega
  · obtain ⟨_, cur, hc⟩ := own_block F.row hg
    exact hk g (lt_some hc) (row_neq_disk hc D.cells)
set_option maxHeartbeats 1600000 in
set_option maxRecDepth 20000 in
theorem put_nil (s : ByteArray) (w : World) (p room : Nat) (l : Fls) (fp : Nat → Prop) (f : Fil) (D : Dsk (some (nm s)) w p room none l fp) (F : Fits (nm s) w l room fp f) (hl : l.length ≤ 1000000) :
    Calls Tryz.prog 46 #[.pointer (some ⟨p, 0, none⟩), .string s, .agg #[f.v, .int .i64 f.k]] w fun e w' => e = .returned (.tuple #[]) ∧ PutTo (nm s) f w p room l fp w' := by
  obtain ⟨A, c, hv, hc1, hc2, _⟩ := own_head F.row
  have hs : s.size ≤ maxLen := by have := F.name; simp only [nm, Array.length_toList] at this; unfold maxLen; show s.data.size ≤ _; omega
  obtain ⟨A0, c0, hv0, hd1, hd2, _⟩ := look_form D (nm s)
  obtain ⟨hu1, hu2⟩ := look_use D (nm s)
  have hsum := sum_put use (nm s) f D.rise
  have hroom := F.room
  have hmost := D.most
  have hfl : f.s.length ≤ sum use (put (nm s) f l) := le_sum use (look_mem (look_put_same (nm s) f l))
  have hfits := D.fits
  have hp := lt_some D.cells
  have c1 : w.cell? ⟨p, 1, none⟩ = some (.int .i64 (sum use l : Nat)) := one_at (i := 1) D.cells
  have c2 : w.cell? ⟨p, 2, none⟩ = some (.map none) := one_at (i := 2) D.cells
  have f2 : w.frozen? ⟨p, 2, none⟩ = false := one_free D.cells
  have f1 : w.frozen? ⟨p, 1, none⟩ = false := one_free D.cells
  rw [hv]
  obtain ⟨sl, hsl⟩ : ∃ z, z = f.s.length := ⟨_, rfl⟩
  obtain ⟨sk, hsk⟩ : ∃ z, z = f.k := ⟨_, rfl⟩
  obtain ⟨u, hu⟩ : ∃ z, z = sum use l := ⟨_, rfl⟩
  obtain ⟨o, ho⟩ : ∃ z, z = (look (nm s) l).elim 0 use := ⟨_, rfl⟩
  rw [← hsl, ← hsk]
  rw [← hu] at c1
  rw [← ho] at hv0
  have hx : sum use (put (nm s) f l) + o = u + sl := by rw [hu, ho, hsl]; exact hsum
  have hB : Hid (Kp fp w (((w.setCell ⟨p, 2, none⟩ (.map (some (w.heap.size + 1)))).alloc (.cells #[.slice A sl c, .int .i64 sk] 88)).alloc (.map #[] 0))) := by
    have h1 : Kp fp w (w.setCell ⟨p, 2, none⟩ (.map (some (w.heap.size + 1)))) := .of_grown (grown_set w p 2 _) (fun g e => by injection e with e; subst e; exact D.pin)
    have h2 : (w.setCell ⟨p, 2, none⟩ (.map (some (w.heap.size + 1)))).heap.size = w.heap.size := by simp [World.setCell]
    exact h1.trans' (.of_below (((Below.refl _ _).alloc (Nat.le_refl _) _).alloc (by simp) _))
  have hnew : Hid ((((w.setCell ⟨p, 2, none⟩ (.map (some (w.heap.size + 1)))).alloc (.cells #[.slice A sl c, .int .i64 sk] 88)).alloc (.map #[] 0)).heap[w.heap.size]? = some (.cells #[.slice A sl c, .int .i64 sk] 88 (0, 0))) := by
    have := heap_alloc2_old (w.setCell ⟨p, 2, none⟩ (.map (some (w.heap.size + 1)))) (.cells #[.slice A sl c, .int .i64 sk] 88) (.map #[] 0)
    have e1 : (w.setCell ⟨p, 2, none⟩ (.map (some (w.heap.size + 1)))).heap.size = w.heap.size := by simp [World.setCell]
    rw [e1] at this
    exact this
  have D1 : Hid (Dsk (some (nm s)) (((w.setCell ⟨p, 2, none⟩ (.map (some (w.heap.size + 1)))).alloc (.cells #[.slice A sl c, .int .i64 sk] 88)).alloc (.map #[] 0)) p room (some (w.heap.size + 1)) l (fun g => fp g ∨ g = w.heap.size + 1) ∧ Fits (nm s) (((w.setCell ⟨p, 2, none⟩ (.map (some (w.heap.size + 1)))).alloc (.cells #[.slice A sl c, .int .i64 sk] 88)).alloc (.map #[] 0)) l room (fun g => fp g ∨ g = w.heap.size + 1) f) := made D F
  rw [← hsl] at hfl
  have X : Hid (sum use (put (nm s) f l) + o = u + sl ∧ sl ≤ room ∧ u ≤ room ∧ room ≤ 1000000 ∧ o ≤ room ∧ sum use (put (nm s) f l) ≤ room) := ⟨hx, by omega, by omega, hmost, by omega, hroom⟩
  have Y : Hid (sl = f.s.length ∧ sk = f.k ∧ u = sum use l) := ⟨hsl, hsk, hu⟩
  replace D := Lib.hid D
  replace F := Lib.hid F
  replace hl := Lib.hid hl
  replace hs := Lib.hid hs
  replace hv := Lib.hid hv
  replace hv0 := Lib.hid hv0
  clear hsl hsk hu ho hx hsum hroom hmost hfits hu1 hu2 hd1 hd2 hc1 hc2 hfl
  have FF := field_run A0 o c0
  have hmm := @run_makeMap Tryz.prog
  have NN := map_nil_run none
  simp only [Option.isNone] at NN
  go_enter Tryz.func46, Tryz.ntmps46
  go_wp2
  obtain ⟨W, hW⟩ : ∃ z, z = (((w.setCell ⟨p, 2, none⟩ (.map (some (w.heap.size + 1)))).alloc (.cells #[.slice A sl c, .int .i64 sk] 88)).alloc (.map #[] 0)) := ⟨_, rfl⟩
  rw [← hW] at hB hnew D1 ⊢
  clear hW
  obtain ⟨m, hm⟩ : ∃ z, z = w.heap.size + 1 := ⟨_, rfl⟩
  rw [← hm] at D1 ⊢
  replace hm := Lib.hid hm
  have b0 : W.cell? ⟨w.heap.size, 0, none⟩ = some (.slice A sl c) := one_at (i := 0) hnew.out
  have b1 : W.cell? ⟨w.heap.size, 1, none⟩ = some (.int .i64 sk) := one_at (i := 1) hnew.out
  have L : Hid ((Instr.lookup 62 (.map (some m)) (.string s) false).run Tryz.prog W.drew = .ok (.agg #[.slice A0 o c0, .int .i64 ((look (nm s) l).elim 0 Fil.k : Nat)]) W.drew) := by
    have := look_run W.drew (some m) l s D1.out.1.map hs.out
    rw [hv0.out] at this
    exact this
  have d1 : W.cell? ⟨p, 1, none⟩ = some (.int .i64 u) := by rw [Y.out.2.2]; exact one_at (i := 1) D1.out.1.cells
  have d2 : W.cell? ⟨p, 2, none⟩ = some (.map (some m)) := one_at (i := 2) D1.out.1.cells
  have g1 : W.frozen? ⟨p, 1, none⟩ = false := one_free D1.out.1.cells
  generalize ((look (nm s) l).elim 0 Fil.k : Nat) = k0 at L
  generalize hq : w.heap.size = q at b0 b1 hnew ⊢
  clear c1 c2 f1 hp
  have L' := L.out
  have e1 : wrap64 ((u : Int) + wrap64 ((sl : Int) - (o : Int))) = (sum use (put (nm s) f l) : Nat) := by
    obtain ⟨x1, x2, x3, x4, x5, x6⟩ := X.out
    have : wrap64 ((sl : Int) - (o : Int)) = (sl : Int) - (o : Int) := IntWalk.wrap64_in _ (by omega)
    rw [this, IntWalk.wrap64_in _ (by omega)]
    omega
  go_region
  clear b0 b1 d1 d2 g1 L L' FF
  obtain ⟨w3, hw3⟩ : ∃ z, z = (W.setCell ⟨p, 1, none⟩ (.int .i64 (sum use (put (nm s) f l) : Nat))).drew := ⟨_, rfl⟩
  have h3 : Hid (w3.heap[p]? = some (.cells #[.int .i64 room, .int .i64 (sum use (put (nm s) f l) : Nat), .map (some m)] 64 (0, 0))) := by
    rw [hw3]
    exact Pk.one_set D1.out.1.cells (.int .i64 (sum use (put (nm s) f l) : Nat))
  have g3 : Hid (W.grownBy w3 (some p)) := by rw [hw3]; exact grown_drew (grown_set W p 1 _)
  go_wp2
  rw [← hw3]
  have H3 : Hid (w3.heap[q]? = some (.cells #[.slice A sl c, .int .i64 sk] 88 (0, 0))) := (g3.out.block q (lt_some hnew.out) (fun e => by
      injection e with e
      subst e
      have h1 := hnew.out
      rw [D1.out.1.cells] at h1
      injection h1 with h1
      injection h1 with _ e
      exact absurd e (by decide))).trans hnew.out
  clear hw3
  have hM := D1.out.1.map.some_
  have hM3 : w3.drew.ownsMap Tryz.prog 9 Rdv m l.length (dat cell l) := (hM.kept g3.out (fun e => ne_map hM D1.out.1.cells (by injection e with e; exact e.symm))).drew
  obtain ⟨w4, hrun, hM4, g4⟩ := hM3.update law Tryz.underlying62 (by have := hl.out; unfold maxLen; omega) (key_nm hs.out) (val := .agg #[.slice A sl c, .int .i64 sk]) (d := .held (.agg #[.slice A sl c, .int .i64 sk])) (ps := []) rfl
  have hcell : cell f = .agg #[.slice A sl c, .int .i64 sk] := by unfold cell; rw [hv.out, ← Y.out.1, ← Y.out.2.1]
  rw [← hcell] at hM4
  have P := put_last D1.out.1 f D1.out.2.row D1.out.2.in_ F.out.apart F.out.name F.out.sync F.out.room h3.out g3.out hM4 (drew_grown g4)
  have E : Hid (PutTo (nm s) f w p room l fp w4) := by
    obtain ⟨P1, P2⟩ := P
    refine ⟨some m, P1.mono (fun g hg => ?_) fun g hg => ?_, hB.out.trans (P2.mono fun g hg => ?_)⟩
    · rcases hg with hg | rfl
      · exact .inl hg
      · exact .inr ⟨by have := hm.out; omega, P1.size _ (.inr rfl)⟩
    · rcases hg with hg | ⟨_, hg⟩
      · exact P1.size g (.inl hg)
      · exact hg
    · rcases hg with hg | rfl
      · exact .inl hg
      · exact .inr ⟨by have := hm.out; omega, D1.out.1.size _ (.inr rfl)⟩
  have b0 : w3.cell? ⟨q, 0, none⟩ = some (.slice A sl c) := one_at (i := 0) (H3.out)
  have b1 : w3.cell? ⟨q, 1, none⟩ = some (.int .i64 sk) := one_at (i := 1) (H3.out)
  have d2 : w3.cell? ⟨p, 2, none⟩ = some (.map (some m)) := one_at (i := 2) h3.out
  clear hM hM3 hM4 g4 hcell P
  go_region
  go_end0
  exact ⟨rfl, E.out⟩
theorem put_any (s : ByteArray) (w : World) (p room : Nat) (mo : Option Nat) (l : Fls) (fp : Nat → Prop) (f : Fil) (D : Dsk (some (nm s)) w p room mo l fp) (F : Fits (nm s) w l room fp f) (hl : l.length ≤ 1000000) :
    Calls Tryz.prog 46 #[.pointer (some ⟨p, 0, none⟩), .string s, .agg #[f.v, .int .i64 f.k]] w fun e w' => e = .returned (.tuple #[]) ∧ PutTo (nm s) f w p room l fp w' := by
  cases mo with
  | none => exact put_nil s w p room l fp f D F hl
  | some m => exact put_some s w p room m l fp f D F hl
end Dk
end Go.Proofs.YtbolcapgocjgcaaGreatDoor
