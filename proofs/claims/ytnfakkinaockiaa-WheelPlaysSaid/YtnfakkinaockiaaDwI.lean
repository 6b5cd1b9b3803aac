/- For WheelPlays: steps that came in; the program's wheel and the document's, side by side. -/
import Derived.Test.YtnfakkinaockiaaDwG
import Derived.Test.YtnfakkinaockiaaDwH
namespace Go.Proofs.Ytnfakkinaockiaa
set_option maxRecDepth 100000
open Go.ChangeShapes Go.WideShapes Go.ChangeAt Go.WideMaps Go.WideElems Go.RowKit
open Go.Proofs.Ytnfakkinaockiaa.Pk (one_at one_free one_set lt_some grown_set adr_block)
namespace Wh

/-- A step as it stands in memory. -/
structure Wp where
  kind : Int
  id : Int
  at_ : Int
def w64 (x : Int) : Prop := -9223372036854775808 ≤ x ∧ x ≤ 9223372036854775807
structure WpAt (w : World) (a : Addr) (i : Nat) (o : Wp) : Prop where
  c0 : w.cell? (a.add (i * 3)) = some (.int .i64 o.kind)
  c1 : w.cell? ⟨(a.add (i * 3)).block, (a.add (i * 3)).off + 1, none⟩ = some (.int .i64 o.id)
  c2 : w.cell? ⟨(a.add (i * 3)).block, (a.add (i * 3)).off + 2, none⟩ = some (.int .i64 o.at_)
/-- A slice of steps that came in. -/
structure Wops (w : World) (B : Nat) (A : Option Addr) (n : Nat) (l : List Wp) : Prop where
  len : l.length = n
  at_ : 0 < n → ∃ a, A = some a ∧ a.block < B ∧ ∀ i o, l[i]? = some o → WpAt w a i o
  ok : ∀ o ∈ l, w64 o.id ∧ w64 o.at_
theorem WpAt.same {w w' : World} {a : Addr} {i : Nat} {o : Wp} (h : WpAt w a i o) (hb : w'.heap[a.block]? = w.heap[a.block]?) : WpAt w' a i o := by
  have e : ∀ k, w'.cell? ⟨(a.add (i * 3)).block, (a.add (i * 3)).off + k, none⟩ = w.cell? ⟨(a.add (i * 3)).block, (a.add (i * 3)).off + k, none⟩ := fun k => World.cell?_of_block (by show w'.heap[(a.add (i * 3)).block]? = w.heap[(a.add (i * 3)).block]?; rw [adr_block]; exact hb)
  exact ⟨(World.cell?_of_block (by rw [adr_block]; exact hb)).trans h.c0, (e 1).trans h.c1, (e 2).trans h.c2⟩
def Wsrc (w : World) (v : Value) (l : List Wp) : Prop := ∃ A n c, v = .slice A n c ∧ n ≤ c ∧ c ≤ 9223372036854775807 ∧ Wops w w.heap.size A n l
theorem view_wops {H : Type} {enc : TypeId × Value → H} {W : World} {sp : Nat → Bool} {held : Bool} {v : Value} {d : DataW H} {p : List MemPlace} {r : Reach} {b0 : Nat}
    (hv : Value.okWide Try.prog W r b0 32 v) (h : DataW.Trod enc Try.prog W 0 sp held 32 v d p) : ∃ l, Wsrc W v l := by
  obtain ⟨A, n, c, rfl⟩ := okWide_slice Try.underlying32 hv
  obtain ⟨fuel, hf⟩ := h
  have c28 : Try.prog.cellsOf 38 = 3 := by kernel_rfl
  have k3 : Try.prog.cellsOf 3 = 1 := by kernel_rfl
  rcases Go.Deep.open_slice Try.underlying32 hf with ⟨hcs, _⟩ | ⟨a, len, cap, m, fu, D, Pl, hcs, _, hl, hm, hmm, _, hi⟩
  · obtain ⟨rfl, rfl, rfl⟩ : A = none ∧ n = 0 ∧ c = 0 := by simpa [Value.cells] using hcs
    exact ⟨[], none, 0, 0, rfl, Nat.le_refl _, by omega, ⟨rfl, fun h => absurd h (by omega), fun o h => by cases h⟩⟩
  · obtain ⟨rfl, rfl, rfl⟩ : A = some a ∧ n = len ∧ c = cap := by simpa [Value.cells] using hcs
    have hle : n ≤ m := by rw [hmm]; split <;> omega
    unfold maxLen at hm
    have one : ∀ i, i < n → ∃ o, WpAt W a i o ∧ w64 o.id ∧ w64 o.at_ := by
      intro i hin
      obtain ⟨cs', h1, h2⟩ := hi i (by omega)
      rw [c28] at h1
      obtain ⟨_, hlen, hat⟩ := World.cells?_some h1
      obtain ⟨xs, fn, _, _, _, hxl, hg⟩ := DataW.trod_struct Try.underlying38 h2
      match cs', hlen with
      | [x0, x1, x2], _ =>
        have e0 : DataW.trod enc Try.prog W 0 sp held fn 3 (([x0, x1, x2].drop 0).take (Try.prog.cellsOf 3)) = xs[0]? := hg 0 _ rfl
        rw [k3] at e0
        have e1 : DataW.trod enc Try.prog W 0 sp held fn 3 (([x0, x1, x2].drop 1).take (Try.prog.cellsOf 3)) = xs[1]? := hg 1 _ rfl
        rw [k3] at e1
        have e2 : DataW.trod enc Try.prog W 0 sp held fn 3 (([x0, x1, x2].drop 2).take (Try.prog.cellsOf 3)) = xs[2]? := hg 2 _ rfl
        rw [k3] at e2
        have hx : ∀ j, j < 3 → ∃ y, xs[j]? = some y := fun j hj => ⟨_, List.getElem?_eq_getElem (by rw [hxl]; exact hj)⟩
        obtain ⟨y0, z0⟩ := hx 0 (by omega)
        obtain ⟨y1, z1⟩ := hx 1 (by omega)
        obtain ⟨y2, z2⟩ := hx 2 (by omega)
        simp only [List.drop_zero, List.drop_succ_cons, List.take_succ_cons, List.take_zero] at e0 e1 e2
        obtain ⟨m0, f0, _, _⟩ := DataW.trod_int Try.underlying3 (e0.trans z0)
        obtain ⟨m1, f1, _, w1⟩ := DataW.trod_int Try.underlying3 (e1.trans z1)
        obtain ⟨m2, f2, _, w2⟩ := DataW.trod_int Try.underlying3 (e2.trans z2)
        simp only [List.cons.injEq, and_true] at f0 f1 f2
        refine ⟨⟨m0, m1, m2⟩, ⟨?_, ?_, ?_⟩, bnd w1, bnd w2⟩
        · have := hat 0 (by omega); rw [Addr.add_zero'] at this; rw [this, f0]; rfl
        · have := hat 1 (by omega); rw [Addr.add_succ'] at this; rw [this, f1]; rfl
        · have := hat 2 (by omega); rw [Addr.add_succ'] at this; rw [this, f2]; rfl
    have all : ∀ k, k ≤ n → ∃ l : List Wp, l.length = k ∧ (∀ i o, l[i]? = some o → WpAt W a i o) ∧ ∀ o ∈ l, w64 o.id ∧ w64 o.at_ := by
      intro k
      induction k with
      | zero => intro _; exact ⟨[], rfl, fun i o h => by simp at h, fun o h => by cases h⟩
      | succ k ih =>
        intro hk
        obtain ⟨l, h1, h2, h3⟩ := ih (by omega)
        obtain ⟨o, h4, h5⟩ := one k (by omega)
        refine ⟨l ++ [o], by simp [h1], fun i o' hi => ?_, fun o' ho => ?_⟩
        · rw [List.getElem?_append] at hi
          split at hi
          · exact h2 i o' hi
          · rename_i hge
            have hi0 : i - l.length = 0 := by
              rcases Nat.eq_zero_or_pos (i - l.length) with e | e
              · exact e
              · rw [List.getElem?_eq_none (by simp; omega)] at hi; cases hi
            rw [hi0] at hi
            simp only [List.getElem?_cons_zero, Option.some.injEq] at hi
            subst hi
            obtain rfl : i = k := by omega
            exact h4
        · rcases List.mem_append.1 ho with h | h
          · exact h3 o' h
          · rw [List.mem_singleton.1 h]; exact h5
    obtain ⟨l, h1, h2, h3⟩ := all n (Nat.le_refl _)
    refine ⟨l, some a, n, c, rfl, hl, by omega, ⟨h1, fun hn => ⟨a, rfl, ?_, h2⟩, h3⟩⟩
    obtain ⟨o, h4, _⟩ := one 0 hn
    have := lt_of_cell h4.c0
    rwa [adr_block] at this

/-! ### side by side -/
/-- The program's wheel at q, the document's at d; the step's box at ob; nothing of theirs in X. -/
structure Mw (B : World) (q d ob : Nat) (o : Wp) (n1 n2 : Int) (S1 S2 : List Tm) (X : Nat → Prop) (W : World) : Prop where
  wh : ∃ A c, Lw B W q n1 S1 (fun g => (X g ∨ g = ob) ∨ g = d ∨ rbk A S2.length g) ∧ Dw W d n2 S2 A c
  dB : B.heap.size ≤ d
  xd : ∀ g, X g → g ≠ d
  od : ob ≠ d
  box : W.heap[ob]? = some (.cells #[.int .i64 o.kind, .int .i64 o.id, .int .i64 o.at_] 38 (0, 0))
section
variable {B W W' : World} {q d ob c : Nat} {o : Wp} {n1 n2 n' : Int} {S1 S2 S' : List Tm} {X X' : Nat → Prop} {A : Option Addr}
theorem Mw.be (M : Mw B q d ob o n1 n2 S1 S2 X W) : Below B.heap.size B W := by
  obtain ⟨A, c, L, D⟩ := M.wh
  exact L.be
theorem Mw.srt (M : Mw B q d ob o n1 n2 S1 S2 X W) : Srt S1 ∧ Nd S1 := by
  obtain ⟨A, c, L, D⟩ := M.wh
  exact ⟨L.srt, L.nd⟩
theorem Mw.below (M : Mw B q d ob o n1 n2 S1 S2 X W) (hb : Below W.heap.size W W') : Mw B q d ob o n1 n2 S1 S2 X W' := by
  obtain ⟨A, c, L, D⟩ := M.wh
  exact ⟨⟨A, c, L.below hb, D.below hb⟩, M.dB, M.xd, M.od, (hb.block ob (lt_some M.box)).trans M.box⟩
theorem Mw.drew (M : Mw B q d ob o n1 n2 S1 S2 X W) : Mw B q d ob o n1 n2 S1 S2 X W.drew := M.below ⟨rfl, rfl, rfl, Nat.le_refl _, fun _ _ => rfl⟩
theorem Mw.less (M : Mw B q d ob o n1 n2 S1 S2 X W) (hx : ∀ g, X' g → X g) : Mw B q d ob o n1 n2 S1 S2 X' W := by
  obtain ⟨A, c, L, D⟩ := M.wh
  refine ⟨⟨A, c, L.less fun g hg => ?_, D⟩, M.dB, fun g hg => M.xd g (hx g hg), M.od, M.box⟩
  rcases hg with (hg | hg) | hg
  · exact .inl (.inl (hx g hg))
  · exact .inl (.inr hg)
  · exact .inr hg
theorem Mw.xlt (M : Mw B q d ob o n1 n2 S1 S2 X W) : ∀ g, X g → g < W.heap.size := fun g hg => by
  obtain ⟨A, c, L, D⟩ := M.wh
  exact L.xs g (.inl (.inl hg))
/-- What a call on the program's leaves. -/
theorem Mw.call_w (M : Mw B q d ob o n1 n2 S1 S2 X W) (D : Dw W d n2 S2 A c) (h : LwTo B W q n' S' (fun g => (X g ∨ g = ob) ∨ g = d ∨ rbk A S2.length g) W') : Mw B q d ob o n' n2 S' S2 X W' ∧ ∀ g, X g → W'.heap[g]? = W.heap[g]? :=
  ⟨⟨⟨A, c, h.1, D.keep fun g hg => h.2.1 g (.inr hg)⟩, M.dB, M.xd, M.od, (h.2.1 ob (.inl (.inr rfl))).trans M.box⟩, fun g hg => h.2.1 g (.inl (.inl hg))⟩
/-- What a call on the document's leaves. -/
theorem Mw.call_d (M : Mw B q d ob o n1 n2 S1 S2 X W) (L : Lw B W q n1 S1 (fun g => (X g ∨ g = ob) ∨ g = d ∨ rbk A S2.length g)) (T : DwTo W d A S2.length n' S' W') : Mw B q d ob o n1 n' S1 S' X W' ∧ ∀ g, X g → W'.heap[g]? = W.heap[g]? := by
  obtain ⟨A', c', D', K, hr⟩ := T
  have kx : ∀ g, X g → W'.heap[g]? = W.heap[g]? := fun g hg => K.block g (L.xs g (.inl (.inl hg))) (M.xd g hg)
  obtain ⟨fp, F, hf⟩ := L.wh
  refine ⟨⟨⟨A', c', ⟨⟨fp, F.keep K.size fun g hg => K.block g (F.size g hg) (fun e => (hf g hg).2 (.inr (.inl e))), fun g hg => ⟨(hf g hg).1, fun e => ?_⟩⟩, L.be.trans (K.below (fun g hg => by rw [hg]; exact M.dB) L.be.size), fun g hg => ?_⟩, D'⟩, M.dB, M.xd, M.od, (K.block ob (lt_some M.box) M.od).trans M.box⟩, kx⟩
  · rcases e with e | e | e
    · exact (hf g hg).2 (.inl e)
    · exact (hf g hg).2 (.inr (.inl e))
    · rcases hr g e with e | e
      · exact (hf g hg).2 (.inr (.inr e))
      · have := F.size g hg
        omega
  · rcases hg with hg | hg | hg
    · exact Nat.lt_of_lt_of_le (L.xs g (.inl hg)) K.size
    · exact D'.lt g (.inl hg)
    · exact D'.lt g (.inr hg)
theorem m_set (M : Mw B q d ob o n1 n2 S1 S2 X W) (id at_ : Int) (hw : w64 id) (few : S1.length + 1 ≤ 100000) :
    Calls Try.prog 10 #[.pointer (some ⟨q, 0, none⟩), .int .i64 id, .int .i64 at_] W fun e w' => e = .returned (.int .i64 (setE at_)) ∧ Mw B q d ob o n1 n2 (setS id at_ S1) S2 X w' := by
  obtain ⟨A, c, L, D⟩ := M.wh
  exact (lw_set L id at_ hw few).mono fun e w' h => ⟨h.1, (M.call_w D h.2).1⟩
theorem x_set (M : Mw B q d ob o n1 n2 S1 S2 X W) (id at_ : Int) (nd : Nd S2) (few : S2.length ≤ 900) :
    Calls Try.prog 14 #[.pointer (some ⟨d, 0, none⟩), .int .i64 id, .int .i64 at_] W fun e w' => e = .returned (.int .i64 (setE at_)) ∧ Mw B q d ob o n1 n2 S1 (setS id at_ S2) X w' := by
  obtain ⟨A, c, L, D⟩ := M.wh
  exact (dset W d c n2 S2 A D nd few id at_).mono fun e w' h => ⟨h.1, (M.call_d L h.2).1⟩
theorem m_off (M : Mw B q d ob o n1 n2 S1 S2 X W) (id : Int) (hw : w64 id) :
    Calls Try.prog 15 #[.pointer (some ⟨q, 0, none⟩), .int .i64 id] W fun e w' => e = .returned (.bool (fnd id S1).isSome) ∧ Mw B q d ob o n1 n2 (without id S1) S2 X w' := by
  obtain ⟨A, c, L, D⟩ := M.wh
  exact (lw_off L id hw).mono fun e w' h => ⟨h.1, (M.call_w D h.2).1⟩
theorem x_off (M : Mw B q d ob o n1 n2 S1 S2 X W) (id : Int) (nd : Nd S2) (few : S2.length ≤ 900) :
    Calls Try.prog 16 #[.pointer (some ⟨d, 0, none⟩), .int .i64 id] W fun e w' => e = .returned (.bool (fnd id S2).isSome) ∧ Mw B q d ob o n1 n2 S1 (without id S2) X w' := by
  obtain ⟨A, c, L, D⟩ := M.wh
  exact (doff W d c n2 S2 A D nd (by omega) id).mono fun e w' h => ⟨h.1, (M.call_d L h.2).1⟩
end
/-! ### turns -/
def tuB (now n : Int) : Bool := decide (now ≤ n) && decide (n ≤ 1099511627776)
def tuN (now n : Int) : Int := if tuB now n = true then n else now
def tuS (now n : Int) (S : List Tm) : List Tm := if tuB now n = true then left n S else S
def tuO (now n : Int) (S : List Tm) : List Int := if tuB now n = true then (offs n S).map (·.1) else []
section
variable {B W W' : World} {q d ob c : Nat} {o : Wp} {n1 n2 : Int} {S1 S2 : List Tm} {X T : Nat → Prop} {A : Option Addr}
/-- What Turn of the program's answers. -/
def MtTo (B : World) (q d ob : Nat) (o : Wp) (n1 n2 : Int) (S1 S2 : List Tm) (zs : List Int) (A : Option Addr) (m : Nat) (w' : World) : Prop :=
  m ≤ 9223372036854775807 ∧ ∃ T, Rr w' T A m zs ∧ Mw B q d ob o n1 n2 S1 S2 T w'
theorem MtTo.out {zs : List Int} {m : Nat} (h : MtTo B q d ob o n1 n2 S1 S2 zs A m W) : ∃ X, Mw B q d ob o n1 n2 S1 S2 X W := ⟨_, h.2.choose_spec.2⟩
theorem m_turn (M : Mw B q d ob o n1 n2 S1 S2 (fun _ => False) W) (n : Int) (ht : tick n1 = true) :
    Calls Try.prog 11 #[.pointer (some ⟨q, 0, none⟩), .int .i64 n] W fun e w' => ∃ A m c, e = .returned (.slice A m c) ∧ MtTo B q d ob o (tuN n1 n) n2 (tuS n1 n S1) S2 (tuO n1 n S1) A m w' := by
  obtain ⟨A, c, L, D⟩ := M.wh
  unfold tuN tuS tuO
  simp only [tick, Bool.and_eq_true, decide_eq_true_eq] at ht
  by_cases h : tuB n1 n = true
  · rw [if_pos h, if_pos h, if_pos h]
    simp only [tuB, Bool.and_eq_true, decide_eq_true_eq] at h
    refine (lw_turn L n h.1 (by simp only [tick, Bool.and_eq_true, decide_eq_true_eq]; omega)).mono ?_
    rintro e w' ⟨A1, m, c1, rfl, hm, R, L', hk, hs⟩
    have hd := lt_some D.cells
    obtain ⟨_, _, e0, hmc, hc, _⟩ := ri_form R
    injection e0 with _ _ e0
    refine ⟨A1, m, c1, rfl, by omega, _, Rr.of_row R, ⟨A, c, L'.less fun g hg => ?_, D.keep fun g hg => hk g (.inr hg)⟩, M.dB, fun g hg e => ?_, M.od, (hk ob (.inl (.inr rfl))).trans M.box⟩
    · rcases hg with (hg | hg) | hg
      · exact .inr hg
      · exact .inl (.inl (.inr hg))
      · exact .inl (.inr hg)
    · have := (ri_block R hg).1
      omega
  · rw [if_neg h, if_neg h, if_neg h]
    simp only [tuB, Bool.and_eq_true, decide_eq_true_eq] at h
    refine (lw_turn_no L n (by
      rcases Decidable.em (n < n1) with e | e
      · exact .inl e
      · right
        simp only [tick, Bool.and_eq_false_iff, decide_eq_false_iff_not]
        omega)).mono ?_
    rintro e w' ⟨rfl, rfl⟩
    exact ⟨none, 0, 0, rfl, by omega, _, Rr.nil _ _ _, M⟩
theorem x_turn {zs : List Int} {A1 : Option Addr} {m1 : Nat} (M : MtTo B q d ob o n1 n2 S1 S2 zs A1 m1 W) (n : Int) (few : S2.length ≤ 900) :
    Calls Try.prog 17 #[.pointer (some ⟨d, 0, none⟩), .int .i64 n] W fun e w' => ∃ A m c, e = .returned (.slice A m c) ∧ MtTo B q d ob o n1 (tuN n2 n) S1 (tuS n2 n S2) zs A1 m1 w' ∧ m ≤ 9223372036854775807 ∧ Rr w' (fun g => g < w'.heap.size) A m (tuO n2 n S2) := by
  obtain ⟨hm1, T, R1, M⟩ := M
  obtain ⟨A, c, L, D⟩ := M.wh
  unfold tuN tuS tuO
  by_cases h : tuB n2 n = true
  · rw [if_pos h, if_pos h, if_pos h]
    simp only [tuB, Bool.and_eq_true, decide_eq_true_eq] at h
    refine (dturn_yes W d c n2 n S2 A D h.1 h.2 (by omega)).mono ?_
    rintro e w' ⟨v, rfl, R, TO⟩
    obtain ⟨A2, c2, rfl, hmc, hc, _⟩ := ri_form R
    obtain ⟨M2, kx⟩ := M.call_d L TO
    refine ⟨A2, _, c2, rfl, ⟨hm1, T, R1.keep kx (fun _ h => h), M2⟩, by omega, (Rr.of_row R).mono fun g hg => lt_some (ri_block R hg).2.choose_spec⟩
  · rw [if_neg h, if_neg h, if_neg h]
    simp only [tuB, Bool.and_eq_true, decide_eq_true_eq] at h
    refine (dturn_no W d c n2 n S2 A D (by omega)).mono ?_
    rintro e w' ⟨rfl, rfl⟩
    exact ⟨none, 0, 0, rfl, ⟨hm1, T, R1, M⟩, by omega, Rr.nil _ _ _⟩
theorem m_ints {zs ys : List Int} {A1 A2 : Option Addr} {m1 m2 : Nat} (M : MtTo B q d ob o n1 n2 S1 S2 zs A1 m1 W) (c1 c2 : Nat) (hm : m2 ≤ 9223372036854775807) (R : Rr W (fun g => g < W.heap.size) A2 m2 ys) (e : zs = ys) :
    Calls Try.prog 12 #[.slice A1 m1 c1, .slice A2 m2 c2] W fun e w' => e = .returned (.bool true) ∧ Mw B q d ob o n1 n2 S1 S2 (fun _ => False) w' := by
  obtain ⟨hm1, T, R1, M⟩ := M
  refine (ints_any W A1 A2 m1 c1 m2 c2 zs ys R1 R M.xlt (fun g hg => hg) hm1 hm).mono fun x w' h => ⟨by rw [h.1, e]; simp, (M.less fun g hg => hg.elim).below h.2⟩
theorem m_at (M : Mw B q d ob o n1 n2 S1 S2 X W) (id : Int) (hw : w64 id) :
    Calls Try.prog 18 #[.pointer (some ⟨q, 0, none⟩), .int .i64 id] W fun e w' => e = .returned (.tuple #[.int .i64 (tm2 (fnd id S1)), .bool (fnd id S1).isSome]) ∧ Mw B q d ob o n1 n2 S1 S2 X w' := by
  obtain ⟨A, c, L, D⟩ := M.wh
  exact (lw_at L id hw).mono fun e w' h => ⟨h.1, M.below h.2⟩
theorem x_find (M : Mw B q d ob o n1 n2 S1 S2 X W) (id : Int) :
    Calls Try.prog 19 #[.pointer (some ⟨d, 0, none⟩), .int .i64 id] W fun e w' => e = .returned (.tuple #[.int .i64 (tm2 (fnd id S2)), .bool (fnd id S2).isSome]) ∧ W = w' := by
  obtain ⟨A, c, L, D⟩ := M.wh
  exact dfind W d c n2 S2 A D id
theorem m_next (M : Mw B q d ob o n1 n2 S1 S2 X W) :
    Calls Try.prog 20 #[.pointer (some ⟨q, 0, none⟩)] W fun e w' => e = .returned (.tuple #[.int .i64 (tm2 S1.head?), .bool S1.head?.isSome]) ∧ Mw B q d ob o n1 n2 S1 S2 X w' := by
  obtain ⟨A, c, L, D⟩ := M.wh
  exact (lw_next L).mono fun e w' h => ⟨h.1, M.below h.2⟩
end
/-- Between two rounds. -/
structure Pw (B : World) (q d : Nat) (now : Int) (S : List Tm) (W : World) : Prop where
  wh : ∃ A c, Lw B W q now S (fun g => g = d ∨ rbk A S.length g) ∧ Dw W d now S A c
  dB : B.heap.size ≤ d
section
variable {B W : World} {q d ob : Nat} {o : Wp} {now : Int} {S : List Tm} {X : Nat → Prop}
theorem Pw.be (P : Pw B q d now S W) : Below B.heap.size B W := by
  obtain ⟨A, c, L, D⟩ := P.wh
  exact L.be
theorem Mw.leave (M : Mw B q d ob o now now S S X W) : Pw B q d now S W := by
  obtain ⟨A, c, L, D⟩ := M.wh
  exact ⟨⟨A, c, L.less fun g hg => .inr hg, D⟩, M.dB⟩
theorem Pw.enter (P : Pw B q d now S W) (o : Wp) : Mw B q d W.heap.size o now now S S (fun _ => False) (W.alloc (.cells #[.int .i64 o.kind, .int .i64 o.id, .int .i64 o.at_] 38 (0, 0))) := by
  obtain ⟨A, c, L, D⟩ := P.wh
  have hb : Below W.heap.size W (W.alloc (.cells #[.int .i64 o.kind, .int .i64 o.id, .int .i64 o.at_] 38 (0, 0))) := (Below.refl _ _).alloc (Nat.le_refl _) _
  refine ⟨⟨A, c, (L.more hb).less fun g hg => ?_, D.below hb⟩, P.dB, fun g hg => hg.elim, fun e => ?_, heap_alloc_new _ _⟩
  · rcases hg with (hg | hg) | hg
    · exact hg.elim
    · exact .inr ⟨by rw [hg]; exact Nat.le_refl _, by rw [hg]; simp⟩
    · exact .inl hg
  · have := lt_some D.cells
    omega
theorem Pw.start {w1 : World} (L : Lw B w1 q now [] (fun _ => False)) : Pw B q w1.heap.size now [] (w1.alloc (.cells #[.int .i64 now, .slice none 0 0] 36 (0, 0))) := by
  have hb : Below w1.heap.size w1 (w1.alloc (.cells #[.int .i64 now, .slice none 0 0] 36 (0, 0))) := (Below.refl _ _).alloc (Nat.le_refl _) _
  refine ⟨⟨none, 0, (L.more hb).less fun g hg => ?_, heap_alloc_new _ _, ⟨rfl, fun h => absurd h (by simp)⟩, Nat.le_refl _, by omega, .inl ⟨rfl, rfl⟩, fun h => absurd h.1 (by simp)⟩, L.be.size⟩
  rcases hg with rfl | hg
  · exact .inr ⟨Nat.le_refl _, by simp⟩
  · exact absurd hg.1 (by simp)
/-- What the last test reads. -/
theorem Mw.ends (M : Mw B q d ob o now now S S X W) : ∃ A c, S.length ≤ c ∧ c ≤ 9223372036854775807 ∧ W.heap[d]? = some (.cells #[.int .i64 now, .slice A S.length c] 36 (0, 0)) ∧
    (∀ s r, S = s :: r → ∃ g oo, A = some ⟨g, oo, none⟩ ∧ W.cell? ⟨g, oo + 1, none⟩ = some (.int .i64 s.2)) ∧
    Calls Try.prog 13 #[.pointer (some ⟨q, 0, none⟩)] W (fun e w' => e = .returned (.int .i64 (S.length : Nat)) ∧ Below W.heap.size W w') ∧
    Calls Try.prog 21 #[.pointer (some ⟨q, 0, none⟩)] W (fun e w' => e = .returned (.int .i64 now) ∧ W = w') := by
  obtain ⟨A, c, L, D⟩ := M.wh
  refine ⟨A, c, D.cap, D.max, D.cells, fun s r e => ?_, lw_len L, lw_now L⟩
  subst e
  obtain ⟨g, oo, e, _, h2⟩ := D.row.tm (k := 0) (by simp)
  rw [Nat.zero_mul, Nat.add_zero] at h2
  exact ⟨g, oo, e, h2⟩
end
theorem tuN_tick {now n : Int} (h : tick now = true) : tick (tuN now n) = true := by
  unfold tuN
  split
  · rename_i h2
    simp only [tick, tuB, Bool.and_eq_true, decide_eq_true_eq] at *
    omega
  · exact h
theorem tuS_len (now n : Int) (S : List Tm) : (tuS now n S).length ≤ S.length := by
  unfold tuS
  split
  · exact left_len _ _
  · exact Nat.le_refl _
theorem setS_len (id at_ : Int) (S : List Tm) : (setS id at_ S).length ≤ S.length + 1 := by
  unfold setS
  split
  · exact sSet_len _ _
  · exact Nat.le_succ _
end Wh
end Go.Proofs.Ytnfakkinaockiaa
