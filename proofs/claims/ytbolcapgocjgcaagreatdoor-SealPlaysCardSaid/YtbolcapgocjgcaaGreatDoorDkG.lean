/- Append, Rename. -/
import Derived.Test.YtbolcapgocjgcaaGreatDoorDkF
namespace Go.Proofs.YtbolcapgocjgcaaGreatDoor
set_option maxRecDepth 100000
open Go.RowKit
open Go.Proofs.YtbolcapgocjgcaaGreatDoor.Pk
namespace Dk

theorem good_nm (s : ByteArray) : (decide (1 ≤ s.size) && decide (s.size ≤ 20)) = good (nm s) := by
  unfold good nm
  rw [Array.length_toList]
  rfl
theorem good_le {n : Bs} (h : good n = true) : n.length ≤ 20 := by
  unfold good at h
  simp at h
  exact h.2
theorem PutTo.dto' {n : Bs} {f : Fil} {w w1 w' : World} {p room : Nat} {l : Fls} {fp : Nat → Prop} (h : PutTo n f w1 p room l fp w') (hk : Kp fp w w1) : DTo w p room fp (put n (abs f) (vals abs l)) w' := by
  obtain ⟨mo, h1, h2⟩ := h
  refine ⟨⟨mo, _, h1.mono (fun g hg => ?_) (fun g hg => ?_), (put_vals abs n f l).symm⟩, hk.trans' h2⟩
  · rcases hg with hg | ⟨h, h'⟩
    · exact .inl hg
    · exact .inr ⟨by have := hk.size; omega, h'⟩
  · rcases hg with hg | ⟨_, h'⟩
    · exact h1.size g (.inl hg)
    · exact h'

/-! ### Rename -/
set_option maxHeartbeats 400000 in
theorem rename_none (w : World) (s t : ByteArray) : Calls Tryz.prog 67 #[.pointer none, .string s, .string t] w fun e w' => e = .returned (.int .i64 5) ∧ Below w.heap.size w w' := by
  have F := Lib.hid (find_none w s)
  go_enter Tryz.func67, Tryz.ntmps67
  go_wp2_with fail
  refine F.out.mono ?_
  rintro e w1 ⟨rfl, hb⟩
  have B : Hid (Below w.heap.size w (w1.alloc (.cells #[.slice none 0 0, .int .i64 0] 88))) := hb.alloc hb.size _
  clear hb F
  unfold nofile
  go_wp2
  go_ret
  exact ⟨rfl, B.out⟩
set_option maxHeartbeats 800000 in
theorem rename_any (w : World) (p room : Nat) (L : St) (fp : Nat → Prop) (s t : ByteArray) (D : Disk w p room L fp) (hs : s.size ≤ maxLen) (hl : L.length ≤ 1000000) :
    Calls Tryz.prog 67 #[.pointer (some ⟨p, 0, none⟩), .string s, .string t] w fun e w' => e = .returned (.int .i64 (sRen L (nm s) (nm t)).1) ∧ DTo w p room fp (sRen L (nm s) (nm t)).2 w' := by
  obtain ⟨mo, l, D, rfl⟩ := D
  rw [len_vals] at hl
  have F := find_any w p room mo l fp s D hs
  have M := Lib.hid (fun w => mayName_any w t)
  have hgd := good_nm t
  unfold sRen
  rw [look_abs]
  cases hk : look (nm s) l with
  | none =>
    rw [hk] at F
    replace F := Lib.hid F
    have D' := Lib.hid D
    clear hk D hgd
    simp only [Option.elim, Option.map]
    go_enter Tryz.func67, Tryz.ntmps67
    go_wp2_with fail
    refine F.out.mono ?_
    rintro e w1 ⟨rfl, hb⟩
    have B : Hid (Below w.heap.size w (w1.alloc (.cells #[.slice none 0 0, .int .i64 0] 88))) := hb.alloc hb.size _
    clear hb F
    unfold nofile
    simp only [Option.elim, Option.isSome]
    go_wp2
    go_ret
    exact ⟨rfl, DTo.of_below ⟨mo, l, D'.out, rfl⟩ B.out⟩
  | some f =>
    have hm := look_mem hk
    obtain ⟨⟨A, c, hv, h1, h2, h3⟩, hn20, hks⟩ := D.head _ hm
    have hrow := (D.rows _ hm (by simp)).1
    have hin := (D.rows _ hm (by simp)).2
    simp only at hv h1 hn20 hks
    rw [hk] at F
    simp only [Option.elim, Option.isSome, cell] at F
    rw [hv] at F
    have hfit := D.fits
    obtain ⟨m, rfl⟩ := some_map D hm
    simp only [Option.elim, Option.map]
    cases hg : good (nm t) with
    | false =>
      rw [if_pos rfl]
      rw [hg] at hgd
      have M' : Hid (∀ w, Calls Tryz.prog 63 #[.string t] w fun e w' => e = .returned (.bool false) ∧ w = w') := by rw [hgd] at M; exact M
      replace F := Lib.hid F
      have D' := Lib.hid D
      clear hm hk hv hrow hin hfit h1 h2 h3 hks D hgd M hg
      generalize f.s = bs at *
      generalize f.k = ky at *
      go_enter Tryz.func67, Tryz.ntmps67
      go_wp2_with fail
      refine F.out.mono ?_
      rintro e w1 ⟨rfl, hb⟩
      have B : Hid (Below w.heap.size w (w1.alloc (.cells #[.slice A bs.length c, .int .i64 ky] 88))) := hb.alloc hb.size _
      clear hb F
      go_wp2_with fail
      refine (M'.out _).mono ?_
      rintro e w2 ⟨rfl, rfl⟩
      go_wp2
      go_ret
      exact ⟨rfl, DTo.of_below ⟨some m, l, D'.out, rfl⟩ B.out⟩
    | true =>
      rw [if_neg (by simp)]
      rw [hg] at hgd
      have M' : Hid (∀ w, Calls Tryz.prog 63 #[.string t] w fun e w' => e = .returned (.bool true) ∧ w = w') := by rw [hgd] at M; exact M
      have hDr : ∀ w1 : World, Below w.heap.size w w1 → Calls Tryz.prog 51 #[.pointer (some ⟨p, 0, none⟩), .string s] w1 fun e w' => e = .returned (.tuple #[]) ∧
          (Kp fp w w' ∧ Kp fp w1 w') ∧ Calls Tryz.prog 46 #[.pointer (some ⟨p, 0, none⟩), .string t, .agg #[.slice A f.s.length c, .int .i64 f.k]] w' fun e w2 => e = .returned (.tuple #[]) ∧ DTo w p room fp (put (nm t) (f.s, f.k) (del (nm s) (vals abs l))) w2 := fun w1 hb =>
        (drop_any s w1 p room m l fp (D.below hb) hs).mono fun e w' h => by
          obtain ⟨e1, d1, d2, d3⟩ := h
          have hkp : Kp fp w w' := (Kp.of_below hb).trans' d2
          refine ⟨e1, ⟨hkp, d2⟩, ?_⟩
          have hsum := sum_put use (nm t) f d1.rise
          have hsum2 := sum_del use (nm s) D.rise
          rw [hk] at hsum2
          simp only [Option.elim] at hsum2
          have G : Fits (nm t) w' (del (nm s) l) room fp f := ⟨d3 _ _ _ (own_same hrow fun g hg => hb.block g (lt_some (own_block hrow hg).2.choose_spec)), hin, fun q hq _ g hg => D.apart _ hm q (mem_del.1 hq).1 (fun e => (mem_del.1 hq).2 e.symm) (by simp) (by simp) g hg, good_le hg, hks, by omega⟩
          have := put_any t w' p room (some m) (del (nm s) l) fp f (d1.some_ _) G (Nat.le_trans (len_del_le _ _) hl)
          rw [hv] at this
          exact this.mono fun e w2 h => ⟨h.1, by
            have := h.2.dto' hkp
            rw [del_vals] at this
            exact this⟩
      have hnew : Hid (∀ g, fp g → g < w.heap.size) := D.size
      replace hDr := Lib.hid hDr
      replace F := Lib.hid F
      clear hm hk hv hrow hin hfit h1 h2 h3 hks D hgd M hg hs hl hn20
      simp only [abs]
      generalize f.s = bs at *
      generalize f.k = ky at *
      go_enter Tryz.func67, Tryz.ntmps67
      go_wp2_with fail
      refine F.out.mono ?_
      rintro e w1 ⟨rfl, hb⟩
      have B : Hid (Below w.heap.size w (w1.alloc (.cells #[.slice A bs.length c, .int .i64 ky] 88))) := hb.alloc hb.size _
      have hq := hb.size
      have hnq : ¬ fp w1.heap.size := fun e => by have := hnew.out _ e; omega
      clear hb F
      go_wp2_with fail
      refine (M'.out _).mono ?_
      rintro e w2 ⟨rfl, rfl⟩
      clear M'
      have G := Lib.hid (hDr.out _ B.out)
      clear hDr B
      have hc : Hid ((w1.alloc (.cells #[.slice A bs.length c, .int .i64 ky] 88)).heap[w1.heap.size]? = some (.cells #[.slice A bs.length c, .int .i64 ky] 88 (0, 0))) := heap_alloc_new _ _
      go_wp2_with fail
      refine G.out.mono ?_
      rintro e w3 ⟨rfl, ⟨k1, k2⟩, P⟩
      have hc3 : w3.heap[w1.heap.size]? = some (.cells #[.slice A bs.length c, .int .i64 ky] 88 (0, 0)) := (k2.block _ (by simp) hnq).trans hc.out
      have b0 : w3.cell? ⟨w1.heap.size, 0, none⟩ = some (.slice A bs.length c) := one_at (i := 0) hc3
      have b1 : w3.cell? ⟨w1.heap.size, 1, none⟩ = some (.int .i64 ky) := one_at (i := 1) hc3
      replace P := Lib.hid P
      clear k1 k2 G hc hc3 hnq hq
      generalize w1.heap.size = q at *
      go_wp2_with fail
      refine P.out.mono ?_
      rintro e w4 ⟨rfl, hd⟩
      replace hd := Lib.hid hd
      clear P
      go_wp2
      go_ret
      exact ⟨rfl, hd.out⟩

/-! ### Append -/
set_option maxHeartbeats 400000 in
theorem append_none (w : World) (s : ByteArray) (v : Value) : Calls Tryz.prog 36 #[.pointer none, .string s, v] w fun e w' => e = .returned (.int .i64 5) ∧ Below w.heap.size w w' := by
  have B : Hid (Below w.heap.size w w) := Below.refl _ _
  go_enter Tryz.func36, Tryz.ntmps36
  go_wp2
  go_ret
  exact ⟨rfl, B.out⟩

theorem app_mid {n : Bs} {w w1 wA wB : World} {p room : Nat} {mo : Option Nat} {l : Fls} {fp : Nat → Prop} {v v' : Value} {s' : Bs} {k q j : Nat} {xs : List Value} (D : Dsk none w p room mo l fp) (hb : Below w.heap.size w w1)
    (hv : (∃ f, look n l = some f ∧ v = f.v) ∨ (look n l = none ∧ v = .slice none 0 0)) (hown : w1.ownsRow 0 5 1 v j xs) (hA : w1.grownBy wA v.ownBlock) (hown' : wA.ownsRow 0 5 1 v' s'.length (u8s s')) (hat : v'.ownBlock = v.ownBlock ∨ v'.ownBlock = some w1.heap.size)
    (hB : wA.grownBy wB (some q)) (hq : w.heap.size ≤ q) (hq1 : q < w1.heap.size) (hn : n.length ≤ 20) (hk : k ≤ s'.length) (hr : sum use l + s'.length ≤ room + (look n l).elim 0 use) :
    Dsk (some n) wB p room mo l (gr fp w wB) ∧ Fits n wB l room (gr fp w wB) ⟨v', s', k⟩ ∧ Kp fp w wB := by
  have hsum : sum use (put n (⟨v', s', k⟩ : Fil) l) + (look n l).elim 0 use = sum use l + s'.length := sum_put use n (⟨v', s', k⟩ : Fil) D.rise
  have hvb : ∀ g, v.ownBlock = some g → ∃ f, (n, f) ∈ l ∧ f.v.ownBlock = some g := fun g hg => by
    rcases hv with ⟨f, hl, rfl⟩ | ⟨_, rfl⟩
    · exact ⟨f, look_mem hl, hg⟩
    · simp [Value.ownBlock] at hg
  have hvf : ∀ g, v.ownBlock = some g → fp g := fun g hg => by
    obtain ⟨f, hm, hf⟩ := hvb g hg
    exact (D.rows _ hm (by simp)).2 g hf
  have hsz : w.heap.size ≤ wB.heap.size := Nat.le_trans hb.size (Nat.le_trans hA.size hB.size)
  have hkeep : ∀ g, g < w.heap.size → v.ownBlock ≠ some g → wB.heap[g]? = w.heap[g]? := fun g hg hne =>
    (hB.block g (Nat.lt_of_lt_of_le hg (Nat.le_trans hb.size hA.size)) (fun e => by injection e with e; omega)).trans ((hA.block g (Nat.lt_of_lt_of_le hg hb.size) (fun e => hne e.symm)).trans (hb.block g hg))
  have hrow8 : ∀ g, v.ownBlock = some g → ∃ cur, w.heap[g]? = some (.cells cur 5 (0, 0)) := fun g hg => by
    obtain ⟨f, hm, hf⟩ := hvb g hg
    exact (own_block (D.rows _ hm (by simp)).1 hf).2
  refine ⟨⟨(hkeep p (D.size p D.pin) (fun e => ?_)).trans D.cells, D.map.keep (fun m e => hkeep m (D.size m (D.min_ m e)) (fun e' => ?_)), D.rise, .inl D.pin, fun m e => .inl (D.min_ m e), D.head, fun x hx hne => ?_, fun x hx y hy hne _ _ => D.apart x hx y hy hne (by simp) (by simp), D.fits, D.most, fun g hg => ?_⟩, ⟨?_, fun g hg => ?_, fun x hx hne g hg e => ?_, hn, hk, by omega⟩, ?_⟩
  · obtain ⟨cur, hc⟩ := hrow8 p e
    exact absurd rfl (row_neq_disk hc D.cells)
  · obtain ⟨cur, hc⟩ := hrow8 m e'
    subst e
    exact absurd rfl (ne_map D.map.some_ hc)
  · have := D.rows x hx (by simp)
    refine ⟨own_same this.1 fun g hg => hkeep g (lt_some (own_block this.1 hg).2.choose_spec) (fun e => ?_), fun g hg => .inl (this.2 g hg)⟩
    obtain ⟨f, hm, hf⟩ := hvb g e
    exact D.apart x hx _ hm (fun e => hne (by rw [e])) (by simp) (by simp) g hg hf
  · rcases hg with hg | ⟨_, hg⟩
    · exact Nat.lt_of_lt_of_le (D.size g hg) hsz
    · exact hg
  · refine own_same hown' fun g hg => hB.block g (lt_some (own_block hown' hg).2.choose_spec) (fun e => ?_)
    injection e with e
    subst e
    rcases hat with h | h
    · rw [h] at hg
      obtain ⟨cur, hc⟩ := hrow8 _ hg
      have := lt_some hc
      omega
    · rw [h] at hg
      injection hg with hg
      omega
  · rcases hat with h | h
    · exact .inl (hvf g (by rw [← h]; exact hg))
    · rw [h] at hg
      injection hg with hg
      refine .inr ⟨by have := hb.size; omega, ?_⟩
      have := lt_some (own_block hown' (g := g) (by rw [h, hg])).2.choose_spec
      exact Nat.lt_of_lt_of_le this hB.size
  · have hx8 := (D.rows x hx (by simp))
    rcases hat with h | h
    · rw [h] at hg
      obtain ⟨f, hm, hf⟩ := hvb g hg
      exact D.apart _ hm x hx (fun e => hne e.symm) (by simp) (by simp) g hf e
    · rw [h] at hg
      injection hg with hg
      have := lt_some (own_block hx8.1 e).2.choose_spec
      have := hb.size
      omega
  · exact ⟨hB.os.trans (hA.os.trans hb.os), hB.tape.trans (hA.tape.trans hb.tape), hB.output.trans (hA.output.trans hb.output), hsz, fun g hg hn => hkeep g hg (fun e => hn (hvf g e))⟩

theorem look_row {w : World} {p room : Nat} {mo : Option Nat} {l : Fls} {fp : Nat → Prop} (D : Dsk none w p room mo l fp) (n : Bs) :
    ∃ A c, (look n l).elim nofile cell = .agg #[.slice A ((look n l).elim [] Fil.s).length c, .int .i64 ((look n l).elim 0 Fil.k : Nat)] ∧ w.ownsRow 0 5 1 (.slice A ((look n l).elim [] Fil.s).length c) ((look n l).elim [] Fil.s).length (u8s ((look n l).elim [] Fil.s)) ∧
      ((∃ f, look n l = some f ∧ Value.slice A ((look n l).elim [] Fil.s).length c = f.v) ∨ (look n l = none ∧ Value.slice A ((look n l).elim [] Fil.s).length c = .slice none 0 0)) ∧ (look n l).elim 0 Fil.k ≤ ((look n l).elim [] Fil.s).length := by
  cases h : look n l with
  | none => exact ⟨none, 0, rfl, World.ownsRow_nil _ _ _ _, .inr ⟨rfl, rfl⟩, Nat.le_refl _⟩
  | some f =>
    obtain ⟨⟨A, c, hv, _⟩, _, hk⟩ := D.head _ (look_mem h)
    have hr := (D.rows _ (look_mem h) (by simp)).1
    simp only at hv hr hk
    refine ⟨A, c, ?_, ?_, .inl ⟨f, rfl, hv.symm⟩, hk⟩
    · simp only [Option.elim, cell]; rw [hv]
    · simp only [Option.elim]; rw [← hv]; exact hr
set_option maxHeartbeats 1600000 in
set_option maxRecDepth 20000 in
theorem append_any (w : World) (p room : Nat) (L : St) (fp : Nat → Prop) (s : ByteArray) {T : Nat → Prop} (A : Option Addr) (m c : Nat) (bs : Bs) (D : Disk w p room L fp) (R : Rb w T A m bs) (hT : ∀ g, T g → g < w.heap.size) (hm : m ≤ 1000000) (hl : L.length ≤ 1000000) :
    Calls Tryz.prog 36 #[.pointer (some ⟨p, 0, none⟩), .string s, .slice A m c] w fun e w' => e = .returned (.int .i64 (sApp room L (nm s) bs).1) ∧ DTo w p room fp (sApp room L (nm s) bs).2 w' := by
  obtain ⟨mo, l, D, rfl⟩ := D
  rw [len_vals] at hl
  have M := Lib.hid (mayName_any w s)
  have hgd := good_nm s
  unfold sApp
  rw [look_abs, used_abs]
  cases hg : good (nm s) with
  | false =>
    rw [if_pos rfl]
    rw [hg] at hgd
    rw [hgd] at M
    have D' := Lib.hid D
    clear D hgd hg R hT
    go_enter Tryz.func36, Tryz.ntmps36
    go_wp2_with fail
    refine M.out.mono ?_
    rintro e w1 ⟨rfl, rfl⟩
    go_wp2
    go_ret
    exact ⟨rfl, DTo.of_below ⟨mo, l, D'.out, rfl⟩ (Below.refl _ _)⟩
  | true =>
    rw [if_neg (by simp)]
    rw [hg] at hgd
    rw [hgd] at M
    have hn20 := good_le hg
    have hs : s.size ≤ maxLen := by have := hn20; simp only [nm, Array.length_toList] at this; unfold maxLen; show s.data.size ≤ _; omega
    have hfit := D.fits
    have hmost := D.most
    have hbl := R.len
    have c0 : w.cell? ⟨p, 0, none⟩ = some (.int .i64 room) := one_at (i := 0) D.cells
    have c1 : w.cell? ⟨p, 1, none⟩ = some (.int .i64 (sum use l : Nat)) := one_at (i := 1) D.cells
    obtain ⟨r, hr⟩ : ∃ r, r = room - sum use l := ⟨_, rfl⟩
    have e0 : IntKind.i64.wrap ((room : Int) - ((sum use l : Nat) : Int)) = (r : Int) := by
      have : (room : Int) - ((sum use l : Nat) : Int) = (r : Int) := by omega
      rw [this]
      rw [IntKind.wrap_i64]
      omega
    rw [← hr]
    by_cases hfull : r < bs.length
    · rw [if_pos hfull]
      have e1 : decide (r < m) = true := decide_eq_true (by omega)
      have D' := Lib.hid D
      clear D hgd hg R hT hfull hr hbl hfit hmost hm hn20 hs
      generalize sum use l = u at c1 e0
      go_enter Tryz.func36, Tryz.ntmps36
      go_wp2_with fail
      refine M.out.mono ?_
      rintro e w1 ⟨rfl, rfl⟩
      go_wp2
      go_quiet (fail)
      have B : Hid (Below w.heap.size w (w.drewN nq)) := ⟨rfl, rfl, rfl, Nat.le_refl _, fun _ _ => rfl⟩
      go_wp2
      go_ret
      exact ⟨rfl, DTo.of_below ⟨mo, l, D'.out, rfl⟩ B.out⟩
    · rw [if_neg hfull]
      have e1 : decide (r < m) = false := decide_eq_false (by omega)
      obtain ⟨A0, c0', hv0, O0, hv, hko⟩ := look_row D (nm s)
      have LL := Lib.hid (fun (W : World) (hb : Below w.heap.size w W) => look_run W mo l s (D.below hb).map hs)
      rw [hv0] at LL
      have hold : Option.elim (Option.map abs (look (nm s) l)) [] (fun x => x.1) = (look (nm s) l).elim [] Fil.s := by cases look (nm s) l <;> rfl
      have hkk : Option.elim (Option.map abs (look (nm s) l)) 0 (fun x => x.2) = (look (nm s) l).elim 0 Fil.k := by cases look (nm s) l <;> rfl
      rw [hold, hkk]
      have huse : (look (nm s) l).elim 0 use = ((look (nm s) l).elim [] Fil.s).length := by cases look (nm s) l <;> rfl
      obtain ⟨old, hold'⟩ : ∃ z, z = (look (nm s) l).elim [] Fil.s := ⟨_, rfl⟩
      obtain ⟨k0, hk0⟩ : ∃ z, z = (look (nm s) l).elim 0 Fil.k := ⟨_, rfl⟩
      rw [← hold', ← hk0] at LL
      rw [← hold'] at O0 hv huse hko ⊢
      rw [← hk0] at hko ⊢
      have hsz : Hid (old.length + m ≤ 140737488355328) := by
        have : (look (nm s) l).elim 0 use ≤ room := (look_use D (nm s)).1
        unfold Hid
        omega
      have hbs : Hid ((old ++ bs).length = old.length + m) := by unfold Hid; rw [List.length_append, hbl]
      have G : Hid (∀ (W wA : World) (v' : Value), Below w.heap.size w W → (W.alloc (.cells #[.slice A0 old.length c0', .int .i64 k0] 88)).grownBy wA (Value.slice A0 old.length c0').ownBlock → wA.ownsRow 0 5 1 v' (old.length + m) (u8s (old ++ bs)) →
          (v'.ownBlock = (Value.slice A0 old.length c0').ownBlock ∨ v'.ownBlock = some (W.alloc (.cells #[.slice A0 old.length c0', .int .i64 k0] 88)).heap.size) →
          Calls Tryz.prog 46 #[.pointer (some ⟨p, 0, none⟩), .string s, .agg #[v', .int .i64 k0]] (wA.setCell ⟨W.heap.size, 0, none⟩ v') fun e w' => e = .returned (.tuple #[]) ∧ DTo w p room fp (put (nm s) (old ++ bs, k0) (vals abs l)) w') := by
        intro W wA v' hb hA ho hat
        have hb1 : Below w.heap.size w (W.alloc (.cells #[.slice A0 old.length c0', .int .i64 k0] 88)) := hb.alloc hb.size _
        obtain ⟨g1, g2, g3⟩ := app_mid (n := nm s) (k := k0) (s' := old ++ bs) (q := W.heap.size) (wB := wA.setCell ⟨W.heap.size, 0, none⟩ v') D hb1 hv (own_same O0 fun g hg => hb1.block g (lt_some (own_block O0 hg).2.choose_spec)) hA (by rw [hbs.out]; exact ho) hat (grown_set _ _ _ _) hb.size (by simp) hn20 (by rw [hbs.out]; omega) (by rw [hbs.out, huse]; omega)
        exact (put_any s _ p room mo l _ ⟨v', old ++ bs, k0⟩ g1 g2 hl).mono fun e w' h => ⟨h.1, h.2.dto g3⟩
      have hOW : Hid (∀ W : World, Below w.heap.size w W → (W.alloc (.cells #[.slice A0 old.length c0', .int .i64 k0] 88)).ownsRow 0 5 1 (.slice A0 old.length c0') old.length (u8s old) ∧ Rb (W.alloc (.cells #[.slice A0 old.length c0', .int .i64 k0] 88)) T A m bs) := fun W hb => by
        have hb1 : Below w.heap.size w (W.alloc (.cells #[.slice A0 old.length c0', .int .i64 k0] 88)) := hb.alloc hb.size _
        exact ⟨own_same O0 fun g hg => hb1.block g (lt_some (own_block O0 hg).2.choose_spec), R.keep (fun g hg => hb1.block g (hT g hg)) (fun _ h => h)⟩
      have hob : Hid (∀ g, (Value.slice A0 old.length c0').ownBlock = some g → g < w.heap.size) := fun g hg => lt_some (own_block O0 hg).2.choose_spec
      have HC : Hid (∀ W : World, Below w.heap.size w W → W.cell? ⟨p, 2, none⟩ = some (.map mo)) := fun W hb => one_at (i := 2) (D.below hb).cells
      clear D hgd hg R hT hfull hr hbl hfit hmost hm hn20 hs hv0 hv O0 hko hold hkk huse hold' hk0
      generalize sum use l = u at c1 e0
      go_enter Tryz.func36, Tryz.ntmps36
      go_wp2_with fail
      refine M.out.mono ?_
      rintro e w1 ⟨rfl, rfl⟩
      go_wp2
      go_quiet (fail)
      have B : Hid (Below w.heap.size w (w.drewN nq)) := ⟨rfl, rfl, rfl, Nat.le_refl _, fun _ _ => rfl⟩
      clear M c0 c1 e0
      generalize w.drewN nq = W at *
      have L := LL.out W B.out
      have c2 := HC.out W B.out
      have OW := Lib.hid (hOW.out W B.out)
      clear LL HC hOW
      go_wp2_with (at_builtin; refine wpList_append_b _ rfl (.tmp 32) (.tmp 33) rfl 0 (.slice A0 old.length c0') old.length old rfl OW.out.1 rfl OW.out.2 hsz.out (Nat.zero_le _) ?_)
      intro v' wA hown hgA hat
      have C := Lib.hid (G.out W wA v' B.out hgA hown (by simpa using hat))
      obtain ⟨A', c', rfl⟩ := own_form hown
      have hq : wA.heap[W.heap.size]? = some (.cells #[.slice A0 old.length c0', .int .i64 k0] 88 (0, 0)) := (hgA.block _ (by simp) (fun e => by have := hob.out _ e.symm; have := B.out.size; omega)).trans (heap_alloc_new _ _)
      have q0 : wA.cell? ⟨W.heap.size, 0, none⟩ = some (.slice A0 old.length c0') := one_at (i := 0) hq
      have q1 : wA.cell? ⟨W.heap.size, 1, none⟩ = some (.int .i64 k0) := one_at (i := 1) hq
      have qf : wA.frozen? ⟨W.heap.size, 0, none⟩ = false := one_free hq
      clear hown hgA hat hq hob G OW L c2 B hsz hbs
      generalize W.heap.size = q at *
      go_wp2_with fail
      refine C.out.mono ?_
      rintro e w4 ⟨rfl, hd⟩
      replace hd := Lib.hid hd
      clear C q0 q1 qf
      go_wp2
      go_ret
      exact ⟨rfl, hd.out⟩
end Dk
end Go.Proofs.YtbolcapgocjgcaaGreatDoor
