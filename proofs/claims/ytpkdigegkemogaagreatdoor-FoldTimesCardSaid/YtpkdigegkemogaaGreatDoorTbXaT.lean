/- Parts of the claim: TbM, TbA -/
import Derived.Maps.Ext
import Derived.Maps.OwnSet
import Derived.Maps.RangeWalk
import Derived.WideKeyPair
import Derived.Lib.Hide
import Derived.Laws.ResultCell
import Derived.Deep.CutRange
import Derived.Deep.CutBlock
import Derived.Deep.QuietTactic
import Derived.BigQuiet
import Derived.Test.YtpkdigegkemogaaGreatDoorWtXaT
import Derived.Test.YtpkdigegkemogaaGreatDoorPkXT
namespace Go.Proofs.YtpkdigegkemogaaGreatDoor
set_option maxRecDepth 100000
namespace Tb
open Wt (Opn mayOp)

abbrev F := Int → Int → Int
def fz : F := fun _ _ => 0
def upd (f : F) (b k a : Int) : F := fun x y => if x = b ∧ y = k then a else f x y
section
variable {f : F} {b k a x y : Int}
theorem upd_same : upd f b k a b k = a := if_pos ⟨rfl, rfl⟩
theorem upd_other (h : ¬ (x = b ∧ y = k)) : upd f b k a x y = f x y := if_neg h
end
def ne0 (x : Int) : Bool := decide (x ≠ 0)
theorem ne0_iff {x : Int} : ne0 x = true ↔ x ≠ 0 := by simp [ne0]
theorem ne0_not {x : Int} : ne0 x = false ↔ x = 0 := by simp [ne0]
def row (f : F) (b : Int) : Nat → List (Int × Int)
  | 0 => []
  | n + 1 => row f b n ++ (if f b ((n : Int) + 1) = 0 then [] else [(b, (n : Int) + 1)])
def walk (f : F) : Nat → List (Int × Int)
  | 0 => []
  | n + 1 => walk f n ++ row f ((n : Int) + 1) 6
def keys (f : F) : List (Int × Int) := walk f 200
def lk (p q : Int × Int) : Prop := p.1 < q.1 ∨ p.1 = q.1 ∧ p.2 < q.2
instance : DecidableRel lk := fun p q => inferInstanceAs (Decidable (p.1 < q.1 ∨ p.1 = q.1 ∧ p.2 < q.2))
theorem mem_row {f : F} {b x y : Int} {n : Nat} : (x, y) ∈ row f b n ↔ x = b ∧ 1 ≤ y ∧ y ≤ (n : Int) ∧ f x y ≠ 0 := by
  induction n with
  | zero => simp [row]; omega
  | succ n ih =>
    unfold row
    rw [List.mem_append, ih]
    by_cases h : f b ((n : Int) + 1) = 0
    · rw [if_pos h]
      constructor
      · rintro (⟨h1, h2, h3, h4⟩ | h5)
        · exact ⟨h1, h2, by omega, h4⟩
        · cases h5
      · rintro ⟨h1, h2, h3, h4⟩
        refine .inl ⟨h1, h2, ?_, h4⟩
        by_cases e : y = (n : Int) + 1
        · subst e h1
          exact absurd h h4
        · omega
    · rw [if_neg h, List.mem_singleton, Prod.mk.injEq]
      constructor
      · rintro (⟨h1, h2, h3, h4⟩ | ⟨h5, h6⟩)
        · exact ⟨h1, h2, by omega, h4⟩
        · subst h5 h6
          exact ⟨rfl, by omega, by omega, h⟩
      · rintro ⟨h1, h2, h3, h4⟩
        by_cases e : y = (n : Int) + 1
        · exact .inr ⟨h1, e⟩
        · exact .inl ⟨h1, h2, by omega, h4⟩
theorem mem_walk {f : F} {x y : Int} {n : Nat} : (x, y) ∈ walk f n ↔ (1 ≤ x ∧ x ≤ (n : Int)) ∧ (1 ≤ y ∧ y ≤ 6) ∧ f x y ≠ 0 := by
  induction n with
  | zero => simp [walk]; omega
  | succ n ih =>
    unfold walk
    rw [List.mem_append, ih, mem_row]
    constructor
    · rintro (⟨h1, h2⟩ | ⟨h1, h2, h3, h4⟩)
      · exact ⟨by omega, h2⟩
      · exact ⟨by omega, by omega, h4⟩
    · rintro ⟨h1, h2, h3⟩
      by_cases e : x = (n : Int) + 1
      · exact .inr ⟨e, by omega, by omega, h3⟩
      · exact .inl ⟨by omega, h2, h3⟩
theorem row_rise (f : F) (b : Int) (n : Nat) : (row f b n).Pairwise lk := by
  induction n with
  | zero => exact List.Pairwise.nil
  | succ n ih =>
    unfold row
    refine List.pairwise_append.2 ⟨ih, ?_, ?_⟩
    · split
      · exact List.Pairwise.nil
      · exact List.pairwise_singleton _ _
    · rintro ⟨x, y⟩ h1 ⟨x', y'⟩ h2
      obtain ⟨r1, r2, r3, r4⟩ := mem_row.1 h1
      split at h2
      · cases h2
      · rw [List.mem_singleton, Prod.mk.injEq] at h2
        exact .inr ⟨by rw [r1, h2.1], by show y < y'; omega⟩
theorem walk_rise (f : F) (n : Nat) : (walk f n).Pairwise lk := by
  induction n with
  | zero => exact List.Pairwise.nil
  | succ n ih =>
    unfold walk
    refine List.pairwise_append.2 ⟨ih, row_rise _ _ _, ?_⟩
    rintro ⟨x, y⟩ h1 ⟨x', y'⟩ h2
    obtain ⟨r1, r2⟩ := mem_walk.1 h1
    obtain ⟨s1, s2⟩ := mem_row.1 h2
    exact .inl (by show x < x'; omega)
theorem lk_irr (p : Int × Int) : ¬ lk p p := by unfold lk; omega
theorem lk_nodup {l : List (Int × Int)} (h : l.Pairwise lk) : l.Nodup := List.Pairwise.imp (S := fun a b => a ≠ b) (fun {a b} h => by rintro rfl; exact lk_irr _ h) h
theorem keys_nd (f : F) : (keys f).Nodup := lk_nodup (walk_rise f 200)
theorem row_len (f : F) (b : Int) (n : Nat) : (row f b n).length ≤ n := by
  induction n with
  | zero => exact Nat.le_refl _
  | succ n ih =>
    unfold row
    rw [List.length_append]
    split
    · simp; omega
    · simp; omega
theorem walk_len (f : F) (n : Nat) : (walk f n).length ≤ 6 * n := by
  induction n with
  | zero => exact Nat.le_refl _
  | succ n ih =>
    unfold walk
    rw [List.length_append]
    have := row_len f ((n : Int) + 1) 6
    omega
def cnt (f : F) : Nat := (keys f).length
theorem cnt_le (f : F) : cnt f ≤ 1200 := walk_len f 200
theorem mem_keys {f : F} {x y : Int} : (x, y) ∈ keys f ↔ (1 ≤ x ∧ x ≤ 200) ∧ (1 ≤ y ∧ y ≤ 6) ∧ f x y ≠ 0 := mem_walk
theorem keys_z : keys fz = [] := by
  refine List.eq_nil_iff_forall_not_mem.2 ?_
  rintro ⟨x, y⟩ h
  exact (mem_keys.1 h).2.2 rfl
theorem cnt_z : cnt fz = 0 := by unfold cnt; rw [keys_z]; rfl
theorem cnt_upd {f : F} {b k a : Int} (hb : 1 ≤ b ∧ b ≤ 200) (hk : 1 ≤ k ∧ k ≤ 6) (ha : a ≠ 0) (h : f b k = 0) : cnt (upd f b k a) = cnt f + 1 := by
  have hp : (keys (upd f b k a)).Perm ((b, k) :: keys f) := by
    refine (List.perm_ext_iff_of_nodup (keys_nd _) (List.nodup_cons.2 ⟨fun hm => (mem_keys.1 hm).2.2 h, keys_nd f⟩)).2 ?_
    rintro ⟨x, y⟩
    rw [List.mem_cons, mem_keys, mem_keys, Prod.mk.injEq]
    by_cases e : x = b ∧ y = k
    · rw [e.1, e.2, upd_same]
      simp [hb, hk, ha]
    · rw [upd_other e]
      simp [e]
  unfold cnt
  rw [hp.length_eq]
  rfl

structure Ok (f : F) : Prop where
  inn : ∀ x y, f x y ≠ 0 → (1 ≤ x ∧ x ≤ 200) ∧ (1 ≤ y ∧ y ≤ 6) ∧ (f x y = 1 ∨ f x y = 2)
theorem ok_z : Ok fz := ⟨fun _ _ h => absurd rfl h⟩
def mayA (a : Int) : Bool := a == 1 || a == 2
def put? (f : F) (o : Opn) (a : Int) : Bool := mayOp o && mayA a && f o.book o.kind == 0
def putF (f : F) (o : Opn) (a : Int) : F := if put? f o a = true then upd f o.book o.kind a else f
theorem mayop_bds {o : Opn} (h : mayOp o = true) : (1 ≤ o.book ∧ o.book ≤ 200) ∧ 1 ≤ o.kind ∧ o.kind ≤ 6 := by
  unfold mayOp at h
  rw [Bool.and_eq_true] at h
  obtain ⟨h1, h2⟩ := h
  refine ⟨by simpa [Wt.inR] using h1, ?_⟩
  by_cases k1 : o.kind = 1
  · omega
  · by_cases k4 : o.kind = 4
    · omega
    · rw [if_neg k1, if_neg k4] at h2
      split at h2
      · omega
      · cases h2
theorem maya_iff {a : Int} : mayA a = true ↔ a = 1 ∨ a = 2 := by simp [mayA]
theorem put_iff {f : F} {o : Opn} {a : Int} : put? f o a = true ↔ mayOp o = true ∧ mayA a = true ∧ f o.book o.kind = 0 := by simp [put?, and_assoc]
theorem Ok.upd {f : F} (O : Ok f) {b k a : Int} (hb : 1 ≤ b ∧ b ≤ 200) (hk : 1 ≤ k ∧ k ≤ 6) (ha : a = 1 ∨ a = 2) : Ok (upd f b k a) := by
  refine ⟨fun x y h => ?_⟩
  by_cases e : x = b ∧ y = k
  · rw [e.1, e.2, upd_same]
    exact ⟨hb, hk, ha⟩
  · rw [upd_other e] at h ⊢
    exact O.inn x y h
theorem Ok.put {f : F} (O : Ok f) (o : Opn) (a : Int) : Ok (putF f o a) := by
  unfold putF
  split
  · rename_i h
    obtain ⟨h1, h2, h3⟩ := put_iff.1 h
    obtain ⟨b1, b2⟩ := mayop_bds h1
    exact O.upd b1 b2 (maya_iff.1 h2)
  · exact O
def lkB (p q : Int × Int) : Bool := decide (lk p q)
theorem lkB_not {p q : Int × Int} : (!lkB q p) = true ↔ ¬ (q.1 < p.1 ∨ q.1 = p.1 ∧ q.2 < p.2) := by
  show (!decide (lk q p)) = true ↔ ¬ lk q p
  rw [Bool.not_eq_true', decide_eq_false_iff_not]
theorem sort_is {xs ys : List (Int × Int)} (hx : xs.Nodup) (hy : ys.Pairwise lk) (h : ∀ x, x ∈ xs ↔ x ∈ ys) : (xs.mergeSort fun x y => !lkB y x) = ys := by
  have tr : ∀ a b c : Int × Int, (!lkB b a) = true → (!lkB c b) = true → (!lkB c a) = true := fun a b c h1 h2 => by
    rw [lkB_not] at *
    omega
  have tot : ∀ a b : Int × Int, ((!lkB b a) || (!lkB a b)) = true := fun a b => by
    rw [Bool.or_eq_true, lkB_not, lkB_not]
    omega
  refine List.Perm.eq_of_pairwise (le := fun a b => (!lkB b a) = true) (fun a b _ _ h1 h2 => ?_) (List.pairwise_mergeSort tr tot xs) (hy.imp fun {a b} h => ?_) ((List.mergeSort_perm xs _).trans ((List.perm_ext_iff_of_nodup hx (lk_nodup hy)).2 h))
  · rw [lkB_not] at h1 h2
    exact Prod.ext (by omega) (by omega)
  · rw [lkB_not]
    unfold lk at h
    omega
structure Col (f : F) (left : Int × Int → Bool) (xs : List (Int × Int)) : Prop where
  nd : xs.Nodup
  mem : ∀ p : Int × Int, p ∈ xs ↔ p ∈ keys f ∧ left p = false
section
variable {f : F} {left left' : Int × Int → Bool} {xs : List (Int × Int)} {p : Int × Int}
theorem Col.start (h : ∀ p, left p = false → f p.1 p.2 = 0) : Col f left [] :=
  ⟨List.nodup_nil, fun ⟨_, _⟩ => ⟨fun hx => (nomatch hx), fun ⟨h1, h2⟩ => absurd (h _ h2) (mem_keys.1 h1).2.2⟩⟩
theorem Col.take (C : Col f left xs) (hx : left p = true) (h' : ∀ z, left' z = (left z && !decide (z = p))) (hp : p ∈ keys f) : Col f left' (xs ++ [p]) := by
  refine ⟨List.nodup_append.2 ⟨C.nd, by simp, fun a ha b hb => ?_⟩, fun z => ?_⟩
  · rw [List.mem_singleton] at hb
    subst hb
    rintro rfl
    have := ((C.mem a).1 ha).2
    rw [hx] at this
    cases this
  · rw [List.mem_append, List.mem_singleton, C.mem z, h' z]
    by_cases e : z = p
    · subst e
      simp [hp]
    · simp [e]
theorem Col.sort (C : Col f left xs) (h : ∀ k, left k = false) : (xs.mergeSort fun x y => !lkB y x) = keys f :=
  sort_is C.nd (walk_rise f 200) fun x => by rw [C.mem x]; simp [h, keys]
theorem Col.perm (C : Col f left xs) (h : ∀ k, left k = false) : xs.length = cnt f := ((List.perm_ext_iff_of_nodup C.nd (keys_nd f)).2 fun x => by rw [C.mem x]; simp [h]).length_eq
theorem Col.len (C : Col f left xs) : xs.length ≤ 1200 := by
  have hp : xs.Perm ((keys f).filter fun k => !left k) := (List.perm_ext_iff_of_nodup C.nd ((keys_nd f).sublist List.filter_sublist)).2 fun x => by
    rw [C.mem x, List.mem_filter, Bool.not_eq_true']
  rw [hp.length_eq]
  exact Nat.le_trans (List.length_filter_le _ _) (cnt_le f)
end
end Tb
end Go.Proofs.YtpkdigegkemogaaGreatDoor
namespace Go.Proofs.YtpkdigegkemogaaGreatDoor
set_option maxRecDepth 100000
open Go.RowKit
open Go.Proofs.YtpkdigegkemogaaGreatDoor.Pk (one_at one_free one_set lt_some grown_set grown_trans grown_refl)
namespace Tb

structure Kq (S : Nat → Prop) (w w' : World) : Prop where
  os : w'.os = w.os
  tape : w'.tape = w.tape
  output : w'.output = w.output
  size : w.heap.size ≤ w'.heap.size
  block : ∀ g, g < w.heap.size → ¬ S g → w'.heap[g]? = w.heap[g]?
def grq (S : Nat → Prop) (w w' : World) : Nat → Prop := fun g => S g ∨ (w.heap.size ≤ g ∧ g < w'.heap.size)
section
variable {S S' : Nat → Prop} {w w' w1 w2 : World}
theorem Kq.trans (h : Kq S w w1) (k : Kq (grq S w w1) w1 w2) : Kq S w w2 :=
  ⟨k.os.trans h.os, k.tape.trans h.tape, k.output.trans h.output, Nat.le_trans h.size k.size, fun g hg hn =>
    (k.block g (Nat.lt_of_lt_of_le hg h.size) (fun e => by
      rcases e with e | ⟨e, _⟩
      · exact hn e
      · omega)).trans (h.block g hg hn)⟩
theorem Kq.mono (h : Kq S w w') (hs : ∀ g, S g → S' g) : Kq S' w w' := ⟨h.os, h.tape, h.output, h.size, fun g hg hn => h.block g hg fun e => hn (hs g e)⟩
theorem Kq.self (h : Kq S w w1) (k : Kq S w1 w2) : Kq S w w2 := h.trans (k.mono fun _ e => .inl e)
theorem Kq.drew (h : Kq S w w') : Kq S w w'.drew := ⟨h.os, h.tape, h.output, h.size, h.block⟩
theorem Kq.of_below (h : Below w.heap.size w w') : Kq S w w' := ⟨h.os, h.tape, h.output, h.size, fun g hg _ => h.block g hg⟩
theorem Kq.of_grown {o : Option Nat} (h : w.grownBy w' o) (ho : ∀ g, o = some g → S g) : Kq S w w' :=
  ⟨h.os, h.tape, h.output, h.size, fun g hg hn => h.block g hg fun e => hn (ho g e.symm)⟩
theorem grq_grq (h1 : w.heap.size ≤ w1.heap.size) (h2 : w1.heap.size ≤ w2.heap.size) : grq (grq S w w1) w1 w2 = grq S w w2 := by
  funext g
  unfold grq
  apply propext
  constructor
  · rintro ((h | ⟨h, h'⟩) | ⟨h, h'⟩)
    · exact .inl h
    · exact .inr ⟨h, by omega⟩
    · exact .inr ⟨by omega, h'⟩
  · rintro (h | ⟨h, h'⟩)
    · exact .inl (.inl h)
    · by_cases e : g < w1.heap.size
      · exact .inl (.inr ⟨h, e⟩)
      · exact .inr ⟨by omega, h'⟩
end

abbrev KT : TypeId := 215
abbrev MT : TypeId := 162
theorem arrK : WideMaps.ArrKey Tryz.prog KT 3 2 := ⟨Tryz.underlying215, by kernel_rfl, by kernel_rfl, by kernel_rfl⟩
theorem typesIs : ∃ m, Tryz.prog.types.size = m + 1 := ⟨Tryz.prog.types.size - 1, by kernel_rfl⟩
theorem law : Maps.Keyed Tryz.prog KT := Maps.Keyed.of_law arrK.law
def Bd (k : Int) : Prop := -9223372036854775808 ≤ k ∧ k ≤ 9223372036854775807
theorem wf_of {k : Int} (h : Bd k) : (Lit.int .i64 k).wf = true := by
  obtain ⟨h1, h2⟩ := h
  simp [Lit.wf, IntKind.min, IntKind.max, IntKind.signed, IntKind.bits]
  omega
theorem bd_of {k : Int} (h : (Lit.int .i64 k).wf = true) : Bd k := by
  simp [Lit.wf, IntKind.min, IntKind.max, IntKind.signed, IntKind.bits] at h
  exact ⟨by omega, by omega⟩
def Bp (p : Int × Int) : Prop := Bd p.1 ∧ Bd p.2
def Kl (p : Int × Int) : Lit := .string (keyBytes [.int .i64 p.1, .int .i64 p.2])
def kv (p : Int × Int) : Value := .agg #[.int .i64 p.1, .int .i64 p.2]
theorem key_of {p : Int × Int} (h : Bp p) : keyOf Tryz.prog KT (kv p) = some (Kl p) := WideMaps.keyOf_pair arrK Tryz.underlying3 typesIs (wf_of h.1) (wf_of h.2)
theorem lit_key {p : Int × Int} (h : Bp p) : WideAt.IsKeyLit (Kl p) := law.key (key_of h)
theorem kl_inj {p q : Int × Int} (hp : Bp p) (hq : Bp q) (h : Kl p = Kl q) : p = q := by
  have := law.inj (key_of hp) (h ▸ key_of hq)
  unfold kv at this
  injection this with this
  injection this with this
  injection this with h1 this
  injection this with h2 _
  injection h1 with _ h1
  injection h2 with _ h2
  exact Prod.ext h1 h2
theorem kl_ne {p q : Int × Int} (hp : Bp p) (hq : Bp q) (h : p ≠ q) : Kl p ≠ Kl q := fun e => h (kl_inj hp hq e)
theorem kl_same {p q : Int × Int} (hp : Bp p) (hq : Bp q) : Lit.sameKey (Kl p) (Kl q) = decide (p = q) := by
  by_cases e : p = q
  · subst e
    rw [WideAt.sameKey_self (lit_key hp)]
    simp
  · rw [Maps.sameKey_ne (kl_ne hp hq e)]; simp [e]
theorem lits_int {m : Nat} {c : Value} {y : List Lit} (h : Tryz.prog.keyLits m 3 [c] = some y) : ∃ a, c = .int .i64 a ∧ y = [.int .i64 a] ∧ (Lit.int .i64 a).wf = true := by
  cases m with
  | zero => simp [Program.keyLits] at h
  | succ m =>
    unfold Program.keyLits at h
    simp only [Tryz.underlying3] at h
    cases c <;> simp at h
    rename_i q0 a
    obtain ⟨⟨rfl, wa⟩, rfl⟩ := h
    exact ⟨a, rfl, rfl, wa⟩
theorem key_inv {v : Value} {l : Lit} (h : keyOf Tryz.prog KT v = some l) : ∃ p, v = kv p ∧ l = Kl p ∧ Bp p := by
  have hf : keyOf Tryz.prog KT v = (if Tryz.prog.keyType KT && v.formed Tryz.prog KT then (Tryz.prog.keyLits (Tryz.prog.types.size + 1) KT v.cells.toList).map fun ls => .string (keyBytes ls) else none) := by
    unfold keyOf
    simp only [Tryz.underlying215]
  have h' := h
  rw [hf] at h
  split at h
  · rename_i hc
    rw [Bool.and_eq_true] at hc
    have hfm := hc.2
    obtain ⟨m, hm⟩ := typesIs
    cases v <;> simp [Value.formed, Tryz.underlying215] at hfm
    rename_i cs
    rw [hm] at h
    unfold Program.keyLits at h
    simp only [Tryz.underlying215, Value.cells] at h
    split at h
    · rename_i hl
      rw [arrK.size] at hl
      obtain ⟨cl⟩ := cs
      obtain ⟨c0, c1, rfl⟩ : ∃ c0 c1, cl = [c0, c1] := by
        match cl, hl with
        | [c0, c1], _ => exact ⟨c0, c1, rfl⟩
      rw [show List.range 2 = [0, 1] from rfl, List.mapM_cons, List.mapM_cons, List.mapM_nil] at h
      simp only [arrK.one] at h
      simp only [bind, Option.bind_eq_some_iff, Option.map_eq_some_iff, pure, Option.some.injEq] at h
      obtain ⟨_, ⟨_, ⟨y0, h0, _, ⟨y1, h1, _, rfl, rfl⟩, rfl⟩, rfl⟩, rfl⟩ := h
      have h0' : Tryz.prog.keyLits (m + 1) 3 [c0] = some y0 := h0
      have h1' : Tryz.prog.keyLits (m + 1) 3 [c1] = some y1 := h1
      obtain ⟨a, rfl, rfl, wa⟩ := lits_int h0'
      obtain ⟨b, rfl, rfl, wb⟩ := lits_int h1'
      exact ⟨(a, b), rfl, rfl, bd_of wa, bd_of wb⟩
    · simp at h
  · cases h

def Rdv (v : Value) : Option (DataW Value × List MemPlace) := some (.held v, [])
theorem zero_int (w : World) : (zeroValue 3).run Tryz.prog w = .ok (.int .i64 0) w := by kernel_rfl
structure Tie (D : DataW Value) (f : F) : Prop where
  tidy : Maps.Tidy D
  has : ∀ p : Int × Int, Bp p → Maps.has D (Kl p) = decide (f p.1 p.2 ≠ 0)
  at_ : ∀ p : Int × Int, Bp p → f p.1 p.2 ≠ 0 → ∀ z, D.atKey (Kl p) z = .held (.int .i64 (f p.1 p.2))
  size : Maps.size D = cnt f
theorem Tie.start : Tie (.map [] : DataW Value) fz := ⟨Maps.tidy_empty, fun p _ => by simp [Maps.has_eq, fz], fun p _ h => absurd rfl h, by rw [cnt_z]; rfl⟩
theorem Tie.few {D : DataW Value} {f : F} (T : Tie D f) : Maps.size D ≤ 1200 := by rw [T.size]; exact cnt_le f
theorem bp_in {p : Int × Int} (h1 : 1 ≤ p.1 ∧ p.1 ≤ 200) (h2 : 1 ≤ p.2 ∧ p.2 ≤ 6) : Bp p := ⟨⟨by omega, by omega⟩, by omega, by omega⟩
theorem Ok.bp {f : F} (O : Ok f) {p : Int × Int} (h : f p.1 p.2 ≠ 0) : Bp p := bp_in (O.inn _ _ h).1 (O.inn _ _ h).2.1
theorem Tie.put {D : DataW Value} {f : F} {b k a : Int} (T : Tie D f) (hb : 1 ≤ b ∧ b ≤ 200) (hk : 1 ≤ k ∧ k ≤ 6) (ha : a ≠ 0) (h0 : f b k = 0) : Tie (D.put (Kl (b, k)) (.held (.int .i64 a))) (upd f b k a) := by
  have hbp : Bp (b, k) := bp_in hb hk
  refine ⟨T.tidy.put (lit_key hbp) _, fun p hp => ?_, fun p hp hn z => ?_, ?_⟩
  · by_cases h : p = (b, k)
    · subst h
      rw [Maps.has_put_same T.tidy.isMap (lit_key hbp), upd_same]
      simp [ha]
    · have h' : ¬ (p.1 = b ∧ p.2 = k) := fun e => h (Prod.ext e.1 e.2)
      rw [Maps.has_put_other (kl_ne hp hbp h), upd_other h', T.has p hp]
  · by_cases h : p = (b, k)
    · subst h
      rw [Maps.atKey_put_same T.tidy.isMap (lit_key hbp), upd_same]
    · have h' : ¬ (p.1 = b ∧ p.2 = k) := fun e => h (Prod.ext e.1 e.2)
      rw [upd_other h'] at hn ⊢
      rw [Maps.atKey_put_other (kl_ne hp hbp h), T.at_ p hp hn]
  · rw [Maps.size_put T.tidy, cnt_upd hb hk ha h0, T.has _ hbp, T.size]
    simp [h0]
def MapIs (w : World) (mo : Option Nat) (f : F) : Prop := (mo = none ∧ f = fz) ∨ ∃ m D, mo = some m ∧ w.ownsMap Tryz.prog KT Rdv m 1200 D ∧ Tie D f
theorem owns_less {w : World} {m n : Nat} {D : DataW Value} {f : F} (h : w.ownsMap Tryz.prog KT Rdv m n D) (T : Tie D f) : w.ownsMap Tryz.prog KT Rdv m 1200 D := by
  have hf := T.few
  obtain ⟨es, clock, hb, F, _, hD⟩ := h
  refine ⟨es, clock, hb, F, ?_, hD⟩
  rw [hD] at hf
  simp [Maps.size, length_sorted] at hf
  exact hf
theorem owns_keep {w w' : World} {m n : Nat} {D : DataW Value} (h : w.ownsMap Tryz.prog KT Rdv m n D) (hk : w'.heap[m]? = w.heap[m]?) : w'.ownsMap Tryz.prog KT Rdv m n D := by
  obtain ⟨es, clock, hb, r⟩ := h
  exact ⟨es, clock, hk.trans hb, r⟩
theorem MapIs.keep {w w' : World} {mo : Option Nat} {f : F} (h : MapIs w mo f) (hk : ∀ m, mo = some m → w'.heap[m]? = w.heap[m]?) : MapIs w' mo f := by
  rcases h with h | ⟨m, D, e, h, T⟩
  · exact .inl h
  · exact .inr ⟨m, D, e, owns_keep h (hk m e), T⟩
theorem map_block {w : World} {m N : Nat} {D : DataW Value} (h : w.ownsMap Tryz.prog KT Rdv m N D) : ∃ es clock, w.heap[m]? = some (.map es clock) := by
  obtain ⟨es, clock, hb, _⟩ := h
  exact ⟨es, clock, hb⟩
theorem ne_map {w : World} {m N g : Nat} {D : DataW Value} {cs : Array Value} {t : TypeId} {fr : Nat × Nat} (h : w.ownsMap Tryz.prog KT Rdv m N D) (hg : w.heap[g]? = some (.cells cs t fr)) : g ≠ m := by
  rintro rfl
  obtain ⟨es, clock, hb⟩ := map_block h
  rw [hb] at hg
  injection hg with hg
  cases hg

def Tz (q z : Nat) (w w' : World) : Prop := ∀ i, i ≠ z → w'.cell? ⟨q, i, none⟩ = w.cell? ⟨q, i, none⟩
structure Kz (q z : Nat) (S : Nat → Prop) (w w' : World) : Prop extends Kq S w w' where
  rest : Tz q z w w'
section
variable {q z : Nat} {S S' : Nat → Prop} {w w' w1 w2 : World}
theorem Kz.trans (h : Kz q z S w w1) (k : Kz q z (grq S w w1) w1 w2) : Kz q z S w w2 := ⟨h.toKq.trans k.toKq, fun i hi => (k.rest i hi).trans (h.rest i hi)⟩
theorem Kz.of_below (hq : q < w.heap.size) (h : Below w.heap.size w w') : Kz q z S w w' := ⟨.of_below h, fun _ _ => World.cell?_of_block (h.block q hq)⟩
theorem Kz.of_grown {o : Option Nat} (hq : q < w.heap.size) (hn : some q ≠ o) (h : w.grownBy w' o) (ho : ∀ g, o = some g → S g) : Kz q z S w w' := ⟨.of_grown h ho, fun _ _ => World.cell?_of_block (h.block q hq hn)⟩
end
structure Hm (w : World) (q z : Nat) (mo : Option Nat) : Prop where
  blk : ∃ cs ty, w.heap[q]? = some (.cells cs ty (0, 0)) ∧ cs[z]? = some (.map mo)
section
variable {w w' : World} {q z : Nat} {mo : Option Nat}
theorem Hm.c (H : Hm w q z mo) : w.cell? ⟨q, z, none⟩ = some (.map mo) := by
  obtain ⟨cs, ty, h, h0⟩ := H.blk
  exact (one_at h).trans h0
theorem Hm.free (H : Hm w q z mo) (i : Nat) : w.frozen? ⟨q, i, none⟩ = false := by
  obtain ⟨cs, ty, h, _⟩ := H.blk
  exact one_free h
theorem Hm.lt (H : Hm w q z mo) : q < w.heap.size := by
  obtain ⟨cs, ty, h, _⟩ := H.blk
  exact lt_some h
theorem Hm.keep (H : Hm w q z mo) (e : w'.heap[q]? = w.heap[q]?) : Hm w' q z mo := by
  obtain ⟨cs, ty, h, r⟩ := H.blk
  exact ⟨cs, ty, e.trans h, r⟩
theorem Hm.ne_map {m N : Nat} {D : DataW Value} (H : Hm w q z mo) (h : w.ownsMap Tryz.prog KT Rdv m N D) : q ≠ m := by
  obtain ⟨cs, ty, hb, _⟩ := H.blk
  exact Tb.ne_map h hb
theorem Hm.set (H : Hm w q z mo) (mo' : Option Nat) : Hm (w.setCell ⟨q, z, none⟩ (.map mo')) q z mo' := by
  obtain ⟨cs, ty, h, h0⟩ := H.blk
  exact ⟨_, ty, one_set h _, Array.getElem?_setIfInBounds_self_of_lt (Array.getElem?_eq_some_iff.1 h0).1⟩
theorem Hm.rest (H : Hm w q z mo) (u : Value) : Tz q z w (w.setCell ⟨q, z, none⟩ u) := fun i hi => by
  obtain ⟨cs, ty, h, _⟩ := H.blk
  rw [one_at (one_set h _), one_at h, Array.getElem?_setIfInBounds_ne (by omega)]
end
structure Tab (w : World) (q z : Nat) (f : F) (fp : Nat → Prop) : Prop where
  ok : Ok f
  pin : fp q
  size : ∀ g, fp g → g < w.heap.size
  at_ : ∃ mo, Hm w q z mo ∧ MapIs w mo f ∧ ∀ m, mo = some m → fp m
def LTo (w : World) (q z : Nat) (fp : Nat → Prop) (f : F) (w' : World) : Prop := Tab w' q z f (grq fp w w') ∧ Kz q z fp w w'
section
variable {w w' w1 w2 : World} {q z : Nat} {f f' : F} {fp fp' : Nat → Prop}
theorem Tab.keep (L : Tab w q z f fp) (hs : w.heap.size ≤ w'.heap.size) (hk : ∀ g, fp g → w'.heap[g]? = w.heap[g]?) : Tab w' q z f fp := by
  obtain ⟨mo, h1, h2, h3⟩ := L.at_
  exact ⟨L.ok, L.pin, fun g hg => Nat.lt_of_lt_of_le (L.size g hg) hs, mo, h1.keep (hk q L.pin), h2.keep fun m e => hk m (h3 m e), h3⟩
theorem Tab.below (L : Tab w q z f fp) (hb : Below w.heap.size w w') : Tab w' q z f fp := L.keep hb.size fun g hg => hb.block g (L.size g hg)
theorem Tab.mono (L : Tab w q z f fp) (hf : ∀ g, fp g → fp' g) (hs : ∀ g, fp' g → g < w.heap.size) : Tab w q z f fp' := by
  obtain ⟨mo, h1, h2, h3⟩ := L.at_
  exact ⟨L.ok, hf q L.pin, hs, mo, h1, h2, fun m e => hf m (h3 m e)⟩
theorem LTo.of_below (L : Tab w q z f fp) (hb : Below w.heap.size w w') : LTo w q z fp f w' :=
  ⟨(L.below hb).mono (fun _ h => .inl h) fun g hg => by
    rcases hg with hg | ⟨_, hg⟩
    · exact Nat.lt_of_lt_of_le (L.size g hg) hb.size
    · exact hg, .of_below (L.size q L.pin) hb⟩
theorem LTo.trans (h : LTo w q z fp f w1) (k : LTo w1 q z (grq fp w w1) f' w2) : LTo w q z fp f' w2 := by
  obtain ⟨k1, k2⟩ := k
  rw [grq_grq h.2.size k2.size] at k1
  exact ⟨k1, h.2.trans k2⟩
theorem Tab.lt (L : Tab w q z f fp) : q < w.heap.size := L.size q L.pin
end
theorem look_run0 (w : World) (mo : Option Nat) (f : F) (p : Int × Int) (h : MapIs w mo f) (hk : Bp p) :
    (Instr.lookup MT (.map mo) (kv p) true).run Tryz.prog w = .ok (.tuple #[.int .i64 (f p.1 p.2), .bool (decide (f p.1 p.2 ≠ 0))]) w := by
  rcases h with ⟨rfl, rfl⟩ | ⟨m, D, rfl, h, T⟩
  · exact Maps.look_nil true law Tryz.underlying162 (zero_int w) (key_of hk)
  · obtain ⟨v, ps, hrun, hv⟩ := h.look_ok law Tryz.underlying162 (zero_int w) (zd := .held (.int .i64 0)) (zp := []) rfl (key_of hk)
    rw [T.has p hk] at hrun
    rw [hrun]
    by_cases h0 : f p.1 p.2 = 0
    · rw [Maps.atKey_of_not_has (by rw [T.has p hk]; simp [h0])] at hv
      injection hv with hv
      injection hv with hv _
      injection hv with hv
      rw [hv, h0]
    · rw [T.at_ p hk h0] at hv
      injection hv with hv
      injection hv with hv _
      injection hv with hv
      rw [hv]
theorem look_run (w : World) (mo : Option Nat) (f : F) (p : Int × Int) (h : MapIs w mo f) (hk : Bp p) :
    (Instr.lookup MT (.map mo) (kv p) true).run Tryz.prog w = .ok (.tuple #[.int .i64 (f p.1 p.2), .bool (ne0 (f p.1 p.2))]) w := look_run0 w mo f p h hk
theorem below_drewN (w : World) (n : Nat) {B : Nat} : Below B w (w.drewN n) := ⟨rfl, rfl, rfl, Nat.le_refl _, fun _ _ => rfl⟩
theorem below_drew {B : Nat} {w w' : World} (h : Below B w w') : Below B w w'.drew := ⟨h.os, h.tape, h.output, h.size, h.block⟩
theorem drew_grown {w w' : World} {o : Option Nat} (h : w.drew.grownBy w' o) : w.grownBy w' o := ⟨h.os, h.tape, h.output, h.size, h.block⟩
theorem below_of_grown {w w' : World} {B : Nat} {row : Option Nat} (hg : w.grownBy w' row) (hB : B ≤ w.heap.size) (hr : ∀ i, row = some i → B ≤ i) : Below B w w' :=
  ⟨hg.os, hg.tape, hg.output, hg.size, fun g hlt => hg.block g (Nat.lt_of_lt_of_le hlt hB) fun e => by have := hr g e.symm; omega⟩
end Tb
end Go.Proofs.YtpkdigegkemogaaGreatDoor
