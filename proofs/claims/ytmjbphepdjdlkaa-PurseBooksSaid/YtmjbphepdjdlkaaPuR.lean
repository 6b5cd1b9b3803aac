/- For PurseBooks: the moves of each booking counted; three arrays, the row of moves and a purse beside each other. -/
import Derived.Test.YtmjbphepdjdlkaaPuQ
namespace Go.Proofs.Ytmjbphepdjdlkaa
set_option maxRecDepth 100000
open Go.RowKit
open Go.Sort (grow)
open Go.Proofs.Ytmjbphepdjdlkaa.Pk (one_at one_free one_set lt_some adr_block)
namespace Pu
open Wt (Opn mayOp)

/-- How many moves, of how much, of whom, by booking. -/
structure Cn where
  c : Ac
  a : Ac
  w : Ac
def cn0 : Cn := ⟨fun _ => 0, fun _ => 0, fun _ => 0⟩
def nxt (s : Cn) (x : Ln) : Cn :=
  if s.c x.bk = 0 then ⟨upd s.c x.bk 1, upd s.a x.bk x.am, upd s.w x.bk x.fr⟩
  else if x.tg = s.w x.bk then ⟨upd s.c x.bk 9, s.a, s.w⟩ else ⟨upd s.c x.bk (s.c x.bk + 1), s.a, s.w⟩
def acc (l : List Ln) : Cn := l.foldl nxt cn0
theorem acc_snoc (l : List Ln) (x : Ln) : acc (l ++ [x]) = nxt (acc l) x := by simp [acc]
/-- What the move may be. -/
def Chk (s : Cn) (x : Ln) : Prop := (1 ≤ x.bk ∧ x.bk ≤ 200) ∧ ((s.c x.bk = 0 ∧ (0 ≤ x.fr ∧ x.fr ≤ 3) ∧ x.tg = 4) ∨
  (s.c x.bk = 1 ∧ x.am = s.a x.bk ∧ (0 ≤ s.w x.bk ∧ s.w x.bk ≤ 3) ∧ x.fr = 4 ∧ x.tg = 5) ∨
  ((s.c x.bk = 1 ∨ s.c x.bk = 2) ∧ x.am = s.a x.bk ∧ (0 ≤ s.w x.bk ∧ s.w x.bk ≤ 3) ∧ x.fr = 3 + s.c x.bk ∧ x.tg = s.w x.bk))
def Link (e : E) (c a w : Int) : Prop := (e.st = 0 ∧ c = 0) ∨ (e.st = 3 ∧ (c = 0 ∨ c = 9)) ∨ (e.st = 4 ∧ c = 1 ∧ a = e.am ∧ w = e.cu) ∨ (e.st = 5 ∧ c = 2 ∧ a = e.am ∧ w = e.cu)
structure Bk (p : S) : Prop where
  good : ∀ (k : Nat) (x : Ln), p.l[k]? = some x → Chk (acc (p.l.take k)) x
  link : ∀ b : Int, 1 ≤ b → b ≤ 200 → Link (p.f b) ((acc p.l).c b) ((acc p.l).a b) ((acc p.l).w b)
section
variable {s : Cn} {x : Ln} {b : Int} {p : S}
theorem nxt_other (h : b ≠ x.bk) : (nxt s x).c b = s.c b ∧ (nxt s x).a b = s.a b ∧ (nxt s x).w b = s.w b := by
  unfold nxt
  split
  · exact ⟨upd_other h, upd_other h, upd_other h⟩
  · split
    · exact ⟨upd_other h, rfl, rfl⟩
    · exact ⟨upd_other h, rfl, rfl⟩
theorem bk_put (B : Bk p) (e : E) (he : ∀ c a w, Link (p.f b) c a w → Link e c a w) : Bk (put p b e) := by
  refine ⟨B.good, fun x h1 h2 => ?_⟩
  show Link (upd p.f b e x) _ _ _
  by_cases hx : x = b
  · subst hx
    rw [upd_same]
    exact he _ _ _ (B.link x h1 h2)
  · rw [upd_other hx]
    exact B.link x h1 h2
theorem bk_mv (B : Bk p) {fr tg am : Int} (e : E) (hc : Chk (acc p.l) ⟨b, fr, tg, am⟩) (he : Link e ((nxt (acc p.l) ⟨b, fr, tg, am⟩).c b) ((nxt (acc p.l) ⟨b, fr, tg, am⟩).a b) ((nxt (acc p.l) ⟨b, fr, tg, am⟩).w b)) : Bk (put (mv p b fr tg am) b e) := by
  refine ⟨fun k x hx => ?_, fun y h1 h2 => ?_⟩
  · have hx' : (p.l ++ [(⟨b, fr, tg, am⟩ : Ln)])[k]? = some x := hx
    show Chk (acc ((p.l ++ [(⟨b, fr, tg, am⟩ : Ln)]).take k)) x
    have hl : k < p.l.length + 1 := by have := (List.getElem?_eq_some_iff.1 hx').1; simpa using this
    rw [List.take_append_of_le_length (by omega)]
    by_cases hk : k < p.l.length
    · rw [List.getElem?_append_left hk] at hx'
      exact B.good k x hx'
    · obtain rfl : k = p.l.length := by omega
      rw [List.getElem?_append_right (Nat.le_refl _), Nat.sub_self] at hx'
      simp at hx'
      subst hx'
      rw [List.take_length]
      exact hc
  · show Link (upd p.f b e y) ((acc (p.l ++ [(⟨b, fr, tg, am⟩ : Ln)])).c y) ((acc (p.l ++ [(⟨b, fr, tg, am⟩ : Ln)])).a y) ((acc (p.l ++ [(⟨b, fr, tg, am⟩ : Ln)])).w y)
    rw [acc_snoc]
    by_cases hy : y = b
    · subst hy
      rw [upd_same]
      exact he
    · obtain ⟨e1, e2, e3⟩ := nxt_other (s := acc p.l) (x := ⟨b, fr, tg, am⟩) (b := y) hy
      rw [upd_other hy, e1, e2, e3]
      exact B.link y h1 h2
theorem bk_end (B : Bk p) (h4 : (p.f b).st ≠ 4) (h5 : (p.f b).st ≠ 5) : Bk (put p b eg) := bk_put B eg fun c a w h => by
  rcases h with h | h | h | h
  · exact .inr (.inl ⟨rfl, .inl h.2⟩)
  · exact .inr (.inl ⟨rfl, h.2⟩)
  · exact absurd h.1 h4
  · exact absurd h.1 h5
theorem bk_auth {c m : Int} (B : Bk p) (h1 : 1 ≤ b) (h2 : b ≤ 200) (c0 : 0 ≤ c) (c3 : c ≤ 3) (h0 : (p.f b).st = 0) : Bk (put (mv p b c 4 m) b ⟨4, c, m⟩) := by
  have hl : (acc p.l).c b = 0 := by
    rcases B.link b h1 h2 with h | h | h | h
    · exact h.2
    all_goals omega
  refine bk_mv B _ ⟨⟨h1, h2⟩, .inl ⟨hl, ⟨c0, c3⟩, rfl⟩⟩ ?_
  unfold nxt
  simp only
  rw [if_pos hl]
  exact .inr (.inr (.inl ⟨rfl, upd_same _ _ _, upd_same _ _ _, upd_same _ _ _⟩))
theorem bk_capt (B : Bk p) (O : Ok p) (h4 : (p.f b).st = 4) : Bk (put (mv p b 4 5 (p.f b).am) b ⟨5, (p.f b).cu, (p.f b).am⟩) := by
  obtain ⟨h1, h2⟩ := (O.shp b).inn (by omega)
  obtain ⟨-, -, c0, c3, -, -⟩ := (O.shp b).bds
  obtain ⟨hc, ha, hw⟩ : (acc p.l).c b = 1 ∧ (acc p.l).a b = (p.f b).am ∧ (acc p.l).w b = (p.f b).cu := by
    rcases B.link b h1 h2 with h | h | h | h
    · omega
    · omega
    · exact h.2
    · omega
  refine bk_mv B _ ⟨⟨h1, h2⟩, .inr (.inl ⟨hc, ha.symm, by simp only [hw]; exact ⟨c0, c3⟩, rfl, rfl⟩)⟩ ?_
  unfold nxt
  simp only
  rw [if_neg (by omega), if_neg (by omega)]
  refine .inr (.inr (.inr ⟨rfl, ?_, ha, hw⟩))
  show upd (acc p.l).c b _ b = 2
  rw [upd_same, hc]
  rfl
theorem bk_void {s : Int} (B : Bk p) (O : Ok p) (hs : s = 4 ∨ s = 5) (h4 : (p.f b).st = s) : Bk (put (mv p b s (p.f b).cu (p.f b).am) b eg) := by
  obtain ⟨h1, h2⟩ := (O.shp b).inn (by omega)
  obtain ⟨-, -, c0, c3, -, -⟩ := (O.shp b).bds
  obtain ⟨hc, ha, hw⟩ : (acc p.l).c b = s - 3 ∧ (acc p.l).a b = (p.f b).am ∧ (acc p.l).w b = (p.f b).cu := by
    rcases B.link b h1 h2 with h | h | h | h
    · omega
    · omega
    · exact ⟨by omega, h.2.2⟩
    · exact ⟨by omega, h.2.2⟩
  refine bk_mv B _ ⟨⟨h1, h2⟩, .inr (.inr ⟨by simp only; omega, ha.symm, by simp only [hw]; exact ⟨c0, c3⟩, by simp only; omega, hw.symm⟩)⟩ ?_
  unfold nxt
  simp only
  rw [if_neg (by omega), if_pos hw.symm]
  exact .inr (.inl ⟨rfl, .inr (upd_same _ _ _)⟩)
theorem bk_do (B : Bk p) (O : Ok p) (o : Opn) : Bk (dstp p o).1 := by
  unfold dstp stp
  cases hm : mayOp o with
  | false => exact B
  | true =>
    obtain ⟨⟨b1, b2⟩, -, hc⟩ := mayop_bds hm
    rw [if_neg (by simp)]
    split
    · rename_i k4
      obtain ⟨⟨c0, c1⟩, m0, m1⟩ := hc k4
      unfold auth
      split
      · rename_i h0
        split
        · exact bk_auth B b1 b2 c0 c1 h0
        · exact bk_end B (by omega) (by omega)
      · split <;> exact B
    · split
      · unfold capt
        split
        · exact B
        · split
          · rename_i h4
            exact bk_capt B O h4
          · exact bk_end B (by omega) (by omega)
      · split
        · show Bk (void p o.book)
          unfold void
          split
          · rename_i h4
            exact bk_void B O (.inl rfl) h4
          · split
            · rename_i h5
              exact bk_void B O (.inr rfl) h5
            · exact bk_end B (by omega) (by omega)
        · exact B
theorem bk_new (a b c d : Int) : Bk (new a b c d) := ⟨fun k x h => by simp [new] at h, fun b _ _ => .inl ⟨rfl, rfl⟩⟩
end

/-! ### arrays of two hundred and one -/
theorem arr_alloc (w : World) : (Instr.alloc 46 true (.tuple #[])).run Try.prog w = .ok (.pointer (some ⟨w.heap.size, 0, none⟩)) (w.alloc (.cells (Array.replicate 201 (.int .i64 0)) 46)) := by
  simp only [Instr.alloc, newVar, newRow, Sem.run_bind]
  kernel_rfl
theorem arr64_alloc (w : World) : (Instr.alloc 47 true (.tuple #[])).run Try.prog w = .ok (.pointer (some ⟨w.heap.size, 0, none⟩)) (w.alloc (.cells (Array.replicate 201 (.int .i64 0)) 47)) := by
  simp only [Instr.alloc, newVar, newRow, Sem.run_bind]
  kernel_rfl
section
variable {ops : Array Oper} {rest : List Oper} {o : Oper} {a : Act} {w : World} {Q : Exit → Act → World → Prop}
theorem wpList_arr (hg : o.guard = none) (ho : o.op = .alloc 46)
    (h : wpList Try.prog ops Q rest (a.put o.dst (.pointer (some ⟨w.heap.size, 0, none⟩))) (w.alloc (.cells (Array.replicate 201 (.int .i64 0)) 46))) : wpList Try.prog ops Q (o :: rest) a w := by
  refine wpList_plain hg fun K hK => ?_
  unfold Oper.wp execOp
  simp only [ho, Sem.run_bind, arr_alloc, Sem.run_pure, Result.andThen_ok]
  exact hK _ _ h
theorem wpList_arr64 (hg : o.guard = none) (ho : o.op = .alloc 47)
    (h : wpList Try.prog ops Q rest (a.put o.dst (.pointer (some ⟨w.heap.size, 0, none⟩))) (w.alloc (.cells (Array.replicate 201 (.int .i64 0)) 47))) : wpList Try.prog ops Q (o :: rest) a w := by
  refine wpList_plain hg fun K hK => ?_
  unfold Oper.wp execOp
  simp only [ho, Sem.run_bind, arr64_alloc, Sem.run_pure, Result.andThen_ok]
  exact hK _ _ h
end

/-! ### beside each other -/
structure By3 (B : Nat) (X : Nat → Prop) (w2 w : World) (q : Nat) (p : S) (cb ab wb : Nat) (v : Value) (s : Cn) : Prop where
  sc : Sm w 201 cb s.c
  sa : Sm w 201 ab s.a
  sw : Sm w 201 wb s.w
  row : RowT LineT w 0 v p.l.length p.l
  lo : ∀ g, v.ownBlock = some g → g < cb
  ow : Ow B X w2 w q p
  bc : B ≤ cb
  ca : cb < ab
  aw : ab < wb
  xc : X cb
  xa : X ab
  xw : X wb
section
variable {B : Nat} {X : Nat → Prop} {w2 w w' : World} {q : Nat} {p : S} {cb ab wb : Nat} {v : Value} {s : Cn}
theorem By3.below (b : By3 B X w2 w q p cb ab wb v s) (hb : Below w.heap.size w w') : By3 B X w2 w' q p cb ab wb v s :=
  ⟨b.sc.below hb, b.sa.below hb, b.sw.below hb, rt_below b.row hb, b.lo, b.ow.below hb, b.bc, b.ca, b.aw, b.xc, b.xa, b.xw⟩
theorem By3.setc (b : By3 B X w2 w q p cb ab wb v s) {k : Nat} (hk : k < 201) (x : Int) : By3 B X w2 (w.setCell ⟨cb, k, none⟩ (.int .i64 x)) q p cb ab wb v ⟨upd s.c (k : Int) x, s.a, s.w⟩ := by
  have K : Kq (fun g => g = cb) w (w.setCell ⟨cb, k, none⟩ (.int .i64 x)) := by rw [set1]; exact Kq.of_cells _ _ _ _
  have h1 := b.ca
  have h2 := b.aw
  exact ⟨b.sc.set hk x, b.sa.keep (K.block _ b.sa.lt (by omega)), b.sw.keep (K.block _ b.sw.lt (by omega)), rt_same b.row fun g hg => K.block g (rt_lt b.row hg) (by have := b.lo g hg; omega), b.lo, b.ow.side K b.xc b.bc, b.bc, b.ca, b.aw, b.xc, b.xa, b.xw⟩
theorem By3.seta (b : By3 B X w2 w q p cb ab wb v s) {k : Nat} (hk : k < 201) (x : Int) : By3 B X w2 (w.setCell ⟨ab, k, none⟩ (.int .i64 x)) q p cb ab wb v ⟨s.c, upd s.a (k : Int) x, s.w⟩ := by
  have K : Kq (fun g => g = ab) w (w.setCell ⟨ab, k, none⟩ (.int .i64 x)) := by rw [set1]; exact Kq.of_cells _ _ _ _
  have h1 := b.ca
  have h2 := b.aw
  have h3 := b.bc
  exact ⟨b.sc.keep (K.block _ b.sc.lt (by omega)), b.sa.set hk x, b.sw.keep (K.block _ b.sw.lt (by omega)), rt_same b.row fun g hg => K.block g (rt_lt b.row hg) (by have := b.lo g hg; omega), b.lo, b.ow.side K b.xa (by omega), b.bc, b.ca, b.aw, b.xc, b.xa, b.xw⟩
theorem By3.setw (b : By3 B X w2 w q p cb ab wb v s) {k : Nat} (hk : k < 201) (x : Int) : By3 B X w2 (w.setCell ⟨wb, k, none⟩ (.int .i64 x)) q p cb ab wb v ⟨s.c, s.a, upd s.w (k : Int) x⟩ := by
  have K : Kq (fun g => g = wb) w (w.setCell ⟨wb, k, none⟩ (.int .i64 x)) := by rw [set1]; exact Kq.of_cells _ _ _ _
  have h1 := b.ca
  have h2 := b.aw
  have h3 := b.bc
  exact ⟨b.sc.keep (K.block _ b.sc.lt (by omega)), b.sa.keep (K.block _ b.sa.lt (by omega)), b.sw.set hk x, rt_same b.row fun g hg => K.block g (rt_lt b.row hg) (by have := b.lo g hg; omega), b.lo, b.ow.side K b.xw (by omega), b.bc, b.ca, b.aw, b.xc, b.xa, b.xw⟩
theorem By3.drew (b : By3 B X w2 w q p cb ab wb v s) : By3 B X w2 w.drew q p cb ab wb v s := b.below ⟨rfl, rfl, rfl, Nat.le_refl _, fun _ _ => rfl⟩
end
end Pu
end Go.Proofs.Ytmjbphepdjdlkaa
