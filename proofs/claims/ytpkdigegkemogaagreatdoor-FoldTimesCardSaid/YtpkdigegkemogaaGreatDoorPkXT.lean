/- Parts of the claim: PkM, PkW, Pk4, Pk5, Pk6, Pk7, PkR -/
import Derived.Test.YtpkdigegkemogaaGreatDoorRows
import Derived.WalkKit
import Derived.Deep.Draws
import Derived.Maps.AppendAt
import Derived.Deep.AppendLies
import Derived.RegionTactic
import Derived.OwnWalk
import Derived.WalkSpells
import Derived.WalkLawsBesides
import Derived.Lib.Hide
import Derived.Deep.QuietTactic
import Derived.BigQuiet
import Derived.Laws.BitsAllLaws
import Derived.Laws.DeepNot64
import Derived.Laws.IdiomStrings
import Derived.Laws.BytesArg
import Derived.StillTailTactics
import Derived.Deep.RegionLaw
namespace Go.Proofs.YtpkdigegkemogaaGreatDoor
namespace Pk

def zz (v : Int) : Nat := if 0 ≤ v then (2 * v).toNat else (-2 * v - 1).toNat
def uz (u : Nat) : Int := if u % 2 = 0 then ((u / 2 : Nat) : Int) else - ((u / 2 : Nat) : Int) - 1
theorem zz_lt (v : Int) (h1 : -9223372036854775808 ≤ v) (h2 : v ≤ 9223372036854775807) : zz v < 18446744073709551616 := by unfold zz; split <;> omega
def enc (u : Nat) : List UInt8 := if u < 128 then [UInt8.ofNat u] else UInt8.ofNat (u % 128 + 128) :: enc (u / 128)
termination_by u
decreasing_by omega
theorem enc_lo {u : Nat} (h : u < 128) : enc u = [UInt8.ofNat u] := by rw [enc, if_pos h]
theorem enc_hi {u : Nat} (h : 128 ≤ u) : enc u = UInt8.ofNat (u % 128 + 128) :: enc (u / 128) := by rw [enc, if_neg (by omega)]
theorem enc_ne (u : Nat) : 0 < (enc u).length := by rw [enc]; split <;> simp
theorem enc_len (k : Nat) : ∀ u, u < 128 ^ (k + 1) → (enc u).length ≤ k + 1 := by
  induction k with
  | zero => intro u hu; rw [enc_lo (by simpa using hu)]; simp
  | succ k ih =>
    intro u hu
    by_cases h : u < 128
    · rw [enc_lo h]; simp
    · rw [enc_hi (by omega)]
      have h2 : u / 128 < 128 ^ (k + 1) := by
        have : 128 ^ (k + 1 + 1) = 128 ^ (k + 1) * 128 := by rw [Nat.pow_succ]
        omega
      have := ih _ h2
      simp; omega
theorem enc_len10 (u : Nat) (h : u < 18446744073709551616) : (enc u).length ≤ 10 := by
  refine enc_len 9 u ?_
  have : (128 : Nat) ^ (9 + 1) = 1180591620717411303424 := by decide
  omega
def encI (v : Int) : List UInt8 := enc (zz v)
theorem encI_len (v : Int) (h1 : -9223372036854775808 ≤ v) (h2 : v ≤ 9223372036854775807) : (encI v).length ≤ 10 := enc_len10 _ (zz_lt v h1 h2)
def encT (s : List UInt8) : List UInt8 := encI s.length ++ s

theorem ofNat_toNat {n : Nat} (h : n < 256) : (UInt8.ofNat n).toNat = n := by simp; omega

abbrev St := Option (List UInt8)
end Pk
end Go.Proofs.YtpkdigegkemogaaGreatDoor
namespace Go.Proofs.YtpkdigegkemogaaGreatDoor
open Go.RowKit
namespace Pk

def u8s (bs : List UInt8) : List Value := bs.map fun c => .int .u8 (c.toNat : Int)
theorem u8s_len (bs : List UInt8) : (u8s bs).length = bs.length := by simp [u8s]
theorem u8s_app (a b : List UInt8) : u8s (a ++ b) = u8s a ++ u8s b := by simp [u8s]
theorem u8s_one (a : List UInt8) : ∀ u ∈ u8s a, u.oneCell' = true := by intro u hu; simp [u8s] at hu; obtain ⟨c, _, rfl⟩ := hu; rfl

theorem adr_block (a : Addr) (n : Nat) : (a.add n).block = a.block := by unfold Addr.add; split <;> rfl
structure Rb (w : World) (T : Nat → Prop) (A : Option Addr) (n : Nat) (bs : List UInt8) : Prop where
  len : bs.length = n
  at_ : 0 < n → ∃ ad, A = some ad ∧ T ad.block ∧ ∀ j c, bs[j]? = some c → w.cell? (ad.add j) = some (.int .u8 (c.toNat : Int))

variable {w w' : World} {T T' : Nat → Prop} {A : Option Addr} {n : Nat} {bs : List UInt8}
theorem Rb.keep (h : Rb w T A n bs) (hk : ∀ g, T g → w'.heap[g]? = w.heap[g]?) (hT : ∀ g, T g → T' g) : Rb w' T' A n bs :=
  ⟨h.len, fun h0 => by
    obtain ⟨ad, e, ht, hc⟩ := h.at_ h0
    refine ⟨ad, e, hT _ ht, fun j c hj => ?_⟩
    rw [← hc j c hj]
    exact World.cell?_of_block (by rw [adr_block]; exact hk _ ht)⟩

def Row (w : World) (g : Nat) : Prop := ∃ cur, w.heap[g]? = some (.cells cur 5 (0, 0))
theorem lt_some {g : Nat} {o : Obj} (h : w.heap[g]? = some o) : g < w.heap.size := by
  rcases Nat.lt_or_ge g w.heap.size with hlt | hge
  · exact hlt
  · rw [Array.getElem?_eq_none hge] at h; cases h
theorem Row.lt {g : Nat} (h : Row w g) : g < w.heap.size := by obtain ⟨_, h⟩ := h; exact lt_some h
theorem Rb.of_own {base c : Nat} (h : w.ownsRow base 5 1 (.slice A n c) n (u8s bs)) : Rb w (fun g => base ≤ g ∧ Row w g) A n bs := by
  have hl := h.1
  rw [u8s_len] at hl
  refine ⟨by omega, fun hn => ?_⟩
  rcases h.2 with ⟨_, h0⟩ | ⟨g, cap, cur, hv, hb, hh, _, _, _, _⟩
  · omega
  · have hA : A = some ⟨g, 0, none⟩ := by injection hv
    subst hA
    exact ⟨_, rfl, ⟨hb, cur, hh⟩, fun j x hj => h.cells (g := g) rfl j _ (by rw [u8s, List.getElem?_map, hj]; rfl)⟩
theorem own_cap {base : Nat} {e : TypeId} {c : Nat} {xs : List Value} (h : w.ownsRow base e 1 (.slice A n c) n xs) : n ≤ c ∧ c ≤ maxLen := by
  rcases h.2 with ⟨h1, h0⟩ | ⟨g, cap, cur, hv, hb, hh, h1, h2, _, _⟩
  · injection h1 with _ _ h1
    subst h1; subst h0
    exact ⟨Nat.le_refl _, by unfold maxLen; omega⟩
  · injection hv with _ _ hv
    subst hv
    exact ⟨h1, h2⟩
theorem own_form {base : Nat} {e : TypeId} {v : Value} {xs : List Value} (h : w.ownsRow base e 1 v n xs) : ∃ A c, v = .slice A n c := by
  rcases h.2 with ⟨rfl, rfl⟩ | ⟨g, cap, cur, rfl, _⟩
  · exact ⟨_, _, rfl⟩
  · exact ⟨_, _, rfl⟩

theorem one_at {p i : Nat} {cs : Array Value} {t : TypeId} (h : w.heap[p]? = some (.cells cs t (0, 0))) : w.cell? ⟨p, i, none⟩ = cs[i]? := cell_of_row w p i cs t (0, 0) h
theorem one_free {p i : Nat} {cs : Array Value} {t : TypeId} (h : w.heap[p]? = some (.cells cs t (0, 0))) : w.frozen? ⟨p, i, none⟩ = false := frozen_of_row w p i cs t h
theorem one_set {p i : Nat} {cs : Array Value} {t : TypeId} (h : w.heap[p]? = some (.cells cs t (0, 0))) (u : Value) : (w.setCell ⟨p, i, none⟩ u).heap[p]? = some (.cells (cs.setIfInBounds i u) t (0, 0)) := by
  simp [World.setCell, Array.getElem?_modify, h]
theorem grown_set (w : World) (p i : Nat) (u : Value) : w.grownBy (w.setCell ⟨p, i, none⟩ u) (some p) :=
  ⟨rfl, rfl, rfl, by simp [World.setCell], fun k _ hk => Below.heap_setCell _ _ _ _ (fun e => hk (by rw [e]))⟩
theorem grown_trans {a b c : World} {g : Option Nat} (h : a.grownBy b g) (k : b.grownBy c g) : a.grownBy c g :=
  ⟨k.os.trans h.os, k.tape.trans h.tape, k.output.trans h.output, Nat.le_trans h.size k.size, fun i hi hg => (k.block i (Nat.lt_of_lt_of_le hi h.size) hg).trans (h.block i hi hg)⟩
theorem grown_refl (w : World) (g : Option Nat) : w.grownBy w g := ⟨rfl, rfl, rfl, Nat.le_refl _, fun _ _ _ => rfl⟩
end Pk
end Go.Proofs.YtpkdigegkemogaaGreatDoor
namespace Go.Proofs.YtpkdigegkemogaaGreatDoor
open Go.RowKit
namespace Pk

def str (bs : List UInt8) : ByteArray := ⟨bs.toArray⟩
theorem str_run {w : World} {T : Nat → Prop} {A : Option Addr} {n c : Nat} {bs : List UInt8} (h : Rb w T A n bs) : (convert 70 9 (.slice A n c)).run Tryz.prog w = .ok (.string (str bs)) w := by
  obtain rfl := h.len
  cases A with
  | none =>
    rcases bs with _ | ⟨x, t⟩
    · exact run_convert_bytes_nil w 70 5 Tryz.underlying70 Tryz.underlying5 _ _ _ Tryz.underlying9
    · obtain ⟨ad, e, _⟩ := h.at_ (by simp)
      cases e
  | some a =>
    refine run_convert_bytes_back w 70 9 5 a c bs Tryz.underlying70 Tryz.underlying5 Tryz.underlying9 fun j hj => ?_
    obtain ⟨ad, e, _, hc⟩ := h.at_ (by omega)
    injection e with e
    subst e
    exact hc j _ (List.getElem?_eq_getElem hj)
end Pk
end Go.Proofs.YtpkdigegkemogaaGreatDoor
namespace Go.Proofs.YtpkdigegkemogaaGreatDoor
open Go.RowKit
namespace Pk

theorem u8_info : (Tryz.prog.info? 5).map (fun i => (i.zero, i.size, i.bytes)) = some (some (.int .u8 0), 1, 1) := by kernel_rfl

theorem run_append_b (w : World) (ty : TypeId) (base : Nat) (v : Value) (n : Nat) (xs : List UInt8) (hown : w.ownsRow base 5 1 v n (u8s xs)) {T : Nat → Prop} {A : Option Addr} {m : Nat} (c : Nat) {ys : List UInt8} (hr : Rb w T A m ys)
    (hb : n + m ≤ 140737488355328) (hbase : base ≤ w.heap.size) :
    ∃ v' w', (Builtin.append_ #[70, 70] ty #[v, .slice A m c]).run Tryz.prog w = .ok v' w' ∧ w'.ownsRow base 5 1 v' (n + m) (u8s (xs ++ ys)) ∧ w.grownBy w' v.ownBlock ∧ (v'.ownBlock = v.ownBlock ∨ v'.ownBlock = some w.heap.size) := by
  obtain ⟨i0, hi, hz0, hz1, hz2⟩ := info_parts u8_info
  cases A with
  | none =>
    have hm : m = 0 := by
      rcases Nat.eq_zero_or_pos m with h | h
      · exact h
      · obtain ⟨ad, e, _⟩ := hr.at_ h
        cases e
    subst hm
    have hy : ys = [] := List.eq_nil_of_length_eq_zero hr.len
    subst hy
    refine ⟨v, w, ?_, by simpa using hown, grown_refl _ _, .inl rfl⟩
    rcases hown.2 with ⟨rfl, rfl⟩ | ⟨g, cap, cur, rfl, _, _, hnc, _⟩
    · simp [Builtin.append_, run_underlying Tryz.underlying70, sizeOf, typeInfo, hi, Builtin.lenOf, Builtin.firstCells]
    · simp [Builtin.append_, run_underlying Tryz.underlying70, sizeOf, typeInfo, hi, Builtin.lenOf, Builtin.firstCells, hnc, storeCells]
  | some ad =>
    have hcells : ∀ j u, (u8s ys)[j]? = some u → w.cell? (ad.add j) = some u := by
      intro j u hu
      rw [u8s, List.getElem?_map] at hu
      rcases hj : ys[j]? with _ | x
      · rw [hj] at hu; cases hu
      · rw [hj] at hu
        have hl : j < ys.length := (List.getElem?_eq_some_iff.1 hj).1
        obtain ⟨ad', e, _, hc⟩ := hr.at_ (by have := hr.len; omega)
        replace e := Option.some.inj e
        subst e
        simp only [Option.map_some, Option.some.injEq] at hu
        subst hu
        exact hc j x hj
    obtain ⟨v', w', hrun, h2, h3, _, h5⟩ := run_append_own_at (P := Tryz.prog) w base 70 ty 5 i0 (.int .u8 0) 1 1 Tryz.underlying70 hi hz0 hz1 hz2 rfl (by decide) v n (u8s xs) hown ad m c (u8s ys)
      (by rw [u8s_len, hr.len]; omega) hcells (u8s_one ys) (by unfold maxLen; omega) (by omega) hbase
    exact ⟨v', w', hrun, by rw [u8s_app]; exact h2, h3, h5⟩

theorem wp_append_b (w : World) {o : Oper} {a : Act} {K : Act → World → Prop} {Q : Exit → Act → World → Prop} (s x : Operand)
    (ho : o.op = .call { callee := .builtin .append, args := #[s, x], argTypes := #[70, 70] })
    (base : Nat) (v : Value) (n : Nat) (xs : List UInt8) (hs : a.eval s = v) (hown : w.ownsRow base 5 1 v n (u8s xs)) {T : Nat → Prop} {A : Option Addr} {m c : Nat} {ys : List UInt8} (hx : a.eval x = .slice A m c) (hr : Rb w T A m ys)
    (hb : n + m ≤ 140737488355328) (hbase : base ≤ w.heap.size)
    (h : ∀ v' w', w'.ownsRow base 5 1 v' (n + m) (u8s (xs ++ ys)) → w.grownBy w' v.ownBlock → (v'.ownBlock = v.ownBlock ∨ v'.ownBlock = some w.heap.size) → K (a.put o.dst v') w') : o.wp Tryz.prog a w K Q := by
  obtain ⟨v', w', hrun, h2, h3, h4⟩ := run_append_b w o.type base v n xs hown c hr hb hbase
  unfold Oper.wp execOp
  simp only [ho, resolve, invoke, builtin, Sem.run_bind, Sem.run_pure, Result.andThen_ok, List.map_toArray, List.map_cons, List.map_nil, hs, hx, hrun]
  exact h v' w' h2 h3 h4

theorem wpList_append_b (w : World) {ops : Array Oper} {rest : List Oper} {o : Oper} {a : Act} {Q : Exit → Act → World → Prop} (hgd : o.guard = none) (s x : Operand)
    (ho : o.op = .call { callee := .builtin .append, args := #[s, x], argTypes := #[70, 70] })
    (base : Nat) (v : Value) (n : Nat) (xs : List UInt8) (hs : a.eval s = v) (hown : w.ownsRow base 5 1 v n (u8s xs)) {T : Nat → Prop} {A : Option Addr} {m c : Nat} {ys : List UInt8} (hx : a.eval x = .slice A m c) (hr : Rb w T A m ys)
    (hb : n + m ≤ 140737488355328) (hbase : base ≤ w.heap.size)
    (h : ∀ v' w', w'.ownsRow base 5 1 v' (n + m) (u8s (xs ++ ys)) → w.grownBy w' v.ownBlock → (v'.ownBlock = v.ownBlock ∨ v'.ownBlock = some w.heap.size) → wpList Tryz.prog ops Q rest (a.put o.dst v') w') : wpList Tryz.prog ops Q (o :: rest) a w :=
  wpList_plain hgd fun _ hK => wp_append_b w s x ho base v n xs hs hown hx hr hb hbase fun v' w' h2 h3 h4 => hK _ _ (h v' w' h2 h3 h4)

theorem step_append_b (w : World) {ops : Array Oper} {o : Oper} {a : Act} {K : Act → World → Prop} {Q : Exit → Act → World → Prop} {E : Prop} (hgd : o.guard = none) (s x : Operand)
    (ho : o.op = .call { callee := .builtin .append, args := #[s, x], argTypes := #[70, 70] })
    (base : Nat) (v : Value) (n : Nat) (xs : List UInt8) (hs : a.eval s = v) (hown : w.ownsRow base 5 1 v n (u8s xs)) {T : Nat → Prop} {A : Option Addr} {m c : Nat} {ys : List UInt8} (hx : a.eval x = .slice A m c) (hr : Rb w T A m ys)
    (hb : n + m ≤ 140737488355328) (hbase : base ≤ w.heap.size)
    (h : ∀ v' w', w'.ownsRow base 5 1 v' (n + m) (u8s (xs ++ ys)) → w.grownBy w' v.ownBlock → (v'.ownBlock = v.ownBlock ∨ v'.ownBlock = some w.heap.size) → K (a.put o.dst v') w') :
    if Region.wanted o (yielded ops a.tmps) = true then Oper.wp Tryz.prog o a w K Q else E := by
  have hw : Region.wanted o (yielded ops a.tmps) = true := by simp [Region.wanted, hgd]
  rw [if_pos hw]
  exact wp_append_b w s x ho base v n xs hs hown hx hr hb hbase h

def Copied (w : World) (n : Nat) (bs : List UInt8) (e : Ending) (w' : World) : Prop :=
  ∃ v, e = .returned v ∧ w'.ownsRow w.heap.size 5 1 v n (u8s bs) ∧ Below w.heap.size w w'

set_option maxHeartbeats 400000 in
theorem clone_nil (w : World) : Calls Tryz.prog 215 #[.slice none 0 0] w (Copied w 0 []) := by
  have H : Copied w 0 [] (.returned (.slice none 0 0)) w := ⟨_, rfl, World.ownsRow_nil _ _ _ _, Below.refl _ _⟩
  replace H := Lib.hid H
  have hnil := Lib.run_eql_slice_nil (P := Tryz.prog) w 70 5 none 0 0 0 0 Tryz.underlying70
  simp at hnil
  go_enter Tryz.func215, Tryz.ntmps215
  go_wp2
  go_ret
  exact H.out
set_option maxHeartbeats 400000 in
theorem clone_some (w : World) (ad : Addr) (n c : Nat) {T : Nat → Prop} (bs : List UInt8) (h : Rb w T (some ad) n bs) (hT : ∀ g, T g → g < w.heap.size) (hn : n ≤ 140737488355328) :
    Calls Tryz.prog 215 #[.slice (some ad) n c] w (Copied w n bs) := by
  have hl := Lib.hid h.len
  have h' := Lib.hid h
  have hT' := Lib.hid hT
  clear h hT
  have hnil := Lib.run_eql_slice_nil (P := Tryz.prog) w 70 5 (some ad) n c 0 0 Tryz.underlying70
  simp at hnil
  go_enter Tryz.func215, Tryz.ntmps215
  go_wp2_with (at_builtin; go_loud (refine wpList_append_b _ rfl (.tmp 5) (.tmp 6) rfl w.heap.size (.slice (some ⟨w.heap.size, 0, none⟩) 0 0) 0 [] rfl ?c1 rfl (h'.out.keep (T' := fun _ => True) ?c2 (fun _ _ => trivial)) ?c3 ?c4 ?_))
  case c1 => exact World.ownsRow_lit w #[] 0 (Nat.le_refl _) (by unfold maxLen; omega) rfl
  case c2 => exact fun g hg => heap_alloc_old w _ (hT'.out g hg)
  case c3 => omega
  case c4 => simp
  intro v' w' hown hg hat
  have hown' := Lib.hid hown
  have hb : Hid (Below w.heap.size w w') := ((Below.refl _ w).alloc (Nat.le_refl _) _).grown hg (by simp) (fun k hk => by simp [Value.ownBlock] at hk; omega)
  clear hown hg hat
  go_wp2
  go_ret
  exact ⟨v', rfl, hown'.out, hb.out⟩

theorem clone_any (w : World) (A : Option Addr) (n c : Nat) {T : Nat → Prop} (bs : List UInt8) (h : Rb w T A n bs) (hT : ∀ g, T g → g < w.heap.size) (hn : n ≤ 140737488355328) (hA : A = none → c = 0) :
    Calls Tryz.prog 215 #[.slice A n c] w (Copied w n bs) := by
  cases A with
  | none =>
    obtain rfl := hA rfl
    have hm : n = 0 := by
      rcases Nat.eq_zero_or_pos n with e | e
      · exact e
      · obtain ⟨ad, e, _⟩ := h.at_ e
        cases e
    subst hm
    obtain rfl := List.eq_nil_of_length_eq_zero h.len
    exact clone_nil w
  | some ad => exact clone_some w ad n c bs h hT hn

end Pk
end Go.Proofs.YtpkdigegkemogaaGreatDoor
namespace Go.Proofs.YtpkdigegkemogaaGreatDoor
open Go.RowKit
namespace Pk

def Wr (w : World) (p : Nat) (bs : List UInt8) : Prop :=
  (w.heap[p]? = some (.cells #[.pointer none, .int .i64 0] 277 (0, 0)) ∧ bs = []) ∨
  ∃ q v, w.heap[p]? = some (.cells #[.pointer (some ⟨q, 0, none⟩), .int .i64 (bs.length : Int)] 277 (0, 0)) ∧ p < q ∧ w.heap[q]? = some (.cells #[v] 70 (0, 0)) ∧ w.ownsRow (p + 1) 5 1 v bs.length (u8s bs)
theorem Wr.lt {w : World} {p : Nat} {bs : List UInt8} (h : Wr w p bs) : p < w.heap.size := by
  rcases h with ⟨h, _⟩ | ⟨q, v, h, _⟩ <;> exact lt_some h
theorem own_below {w w' : World} {base n : Nat} {e : TypeId} {v : Value} {xs : List Value} (h : w.ownsRow base e 1 v n xs) (hb : Below w.heap.size w w') : w'.ownsRow base e 1 v n xs := by
  refine ⟨h.1, ?_⟩
  rcases h.2 with hn | ⟨g, cap, cur, rfl, hg, hgg, rest⟩
  · exact .inl hn
  · exact .inr ⟨g, cap, cur, rfl, hg, (hb.block g (lt_some hgg)).trans hgg, rest⟩
theorem Wr.below {w w' : World} {p : Nat} {bs : List UInt8} (h : Wr w p bs) (hb : Below w.heap.size w w') : Wr w' p bs := by
  rcases h with ⟨h, e⟩ | ⟨q, v, h, hq, h2, h3⟩
  · exact .inl ⟨(hb.block p (lt_some h)).trans h, e⟩
  · exact .inr ⟨q, v, (hb.block p (lt_some h)).trans h, hq, (hb.block q (lt_some h2)).trans h2, own_below h3 hb⟩
theorem Wr.new (w : World) : Wr (w.alloc (.cells #[.pointer none, .int .i64 0] 277)) w.heap.size [] := .inl ⟨heap_alloc_new _ _, rfl⟩

set_option maxRecDepth 100000 in
set_option maxHeartbeats 400000 in
theorem bytes_any (p : Nat) (w : World) (bs : List UInt8) (h : Wr w p bs) (hn : bs.length ≤ 140737488355328) :
    Calls Tryz.prog 213 #[.pointer (some ⟨p, 0, none⟩)] w (Copied w bs.length bs) := by
  rcases h with ⟨h1, rfl⟩ | ⟨q, v, h1, hq, h2, h3⟩
  · have c0 : w.cell? ⟨p, 0, none⟩ = some (.pointer none) := one_at h1
    have H : Hid (Copied w 0 [] (.returned (.slice none 0 0)) w) := ⟨_, rfl, World.ownsRow_nil _ _ _ _, Below.refl _ _⟩
    clear h1
    go_enter Tryz.func213, Tryz.ntmps213
    go_wp2
    go_ret
    exact H.out
  · obtain ⟨A, c, rfl⟩ := own_form h3
    have hl := Lib.hid (h3.1)
    have hc := own_cap h3
    have hc2 : c ≤ 9223372036854775807 := by have := hc.2; unfold maxLen at this; omega
    have c0 : w.cell? ⟨p, 0, none⟩ = some (.pointer (some ⟨q, 0, none⟩)) := one_at h1
    have c1 : w.cell? ⟨p, 1, none⟩ = some (.int .i64 (bs.length : Int)) := one_at h1
    have c2 : w.cell? ⟨q, 0, none⟩ = some (.slice A bs.length c) := one_at h2
    have R := Rb.of_own h3
    have hn1 := hc.1
    have hA : A = none → c = 0 := by
      rintro rfl
      rcases h3.2 with ⟨e, _⟩ | ⟨g, cap, cur, e, _⟩
      · injection e
      · injection e with e; cases e
    have C := Lib.hid (clone_any w.drew A bs.length c bs (R.keep (w' := w.drew) (T' := fun g => g < w.heap.size) (fun _ _ => rfl) (fun g hg => hg.2.lt)) (fun g hg => hg) hn hA)
    clear h1 h2 h3 hc R hA
    go_enter Tryz.func213, Tryz.ntmps213
    go_wp2
    go_still_tail 11, (by kernel_rfl)
    change wpList _ _ _ _ _ w.drew
    go_wp2_with fail
    refine C.out.mono ?_
    rintro e w1 ⟨v, rfl, hown, hb⟩
    have HH : Hid (Copied w bs.length bs (.returned v) w1) := ⟨v, rfl, hown, ⟨hb.os, hb.tape, hb.output, hb.size, hb.block⟩⟩
    clear hown hb
    go_wp2
    go_ret
    exact HH.out

set_option maxHeartbeats 400000 in
theorem bytes_zero (p : Nat) (w : World) (c0 : w.cell? ⟨p, 0, none⟩ = some (.pointer none)) :
    Calls Tryz.prog 213 #[.pointer (some ⟨p, 0, none⟩)] w fun e w' => e = .returned (.slice none 0 0) ∧ w = w' := by
  go_enter Tryz.func213, Tryz.ntmps213
  go_wp2
  go_ret
  exact ⟨rfl, rfl⟩

def Mid (w : World) (p q : Nat) (v : Value) (bs : List UInt8) (k : Int) : Prop :=
  w.heap[p]? = some (.cells #[.pointer (some ⟨q, 0, none⟩), .int .i64 k] 277 (0, 0)) ∧ p < q ∧ w.heap[q]? = some (.cells #[v] 70 (0, 0)) ∧ w.ownsRow (p + 1) 5 1 v bs.length (u8s bs)

theorem own_far {w : World} {base n g : Nat} {t : TypeId} {cs : Array Value} {v : Value} {xs : List Value} (h : w.ownsRow base 5 1 v n xs) (hg : w.heap[g]? = some (.cells cs t (0, 0))) (ht : t ≠ 5) : v.ownBlock ≠ some g := by
  rcases h.2 with ⟨rfl, _⟩ | ⟨g', cap, cur, rfl, _, hh, _⟩
  · simp [Value.ownBlock]
  · intro he
    have e : g' = g := by simpa [Value.ownBlock] using he
    subst e
    rw [hh] at hg
    injection hg with hg
    injection hg with _ e
    exact ht e.symm

def Oth (w w' : World) : Prop := ∀ (g : Nat) (cs : Array Value) (t : TypeId), w.heap[g]? = some (Obj.cells cs t (0, 0)) → t ≠ 277 → t ≠ 70 → t ≠ 5 → w'.heap[g]? = w.heap[g]?
theorem Oth.refl (w : World) : Oth w w := fun _ _ _ _ _ _ _ => rfl
theorem Oth.trans {a b c : World} (h : Oth a b) (k : Oth b c) : Oth a c := fun g cs t hg h1 h2 h3 => (k g cs t ((h g cs t hg h1 h2 h3).trans hg) h1 h2 h3).trans (h g cs t hg h1 h2 h3)
theorem Oth.below {a b : World} (h : Below a.heap.size a b) : Oth a b := fun g _ _ hg _ _ _ => h.block g (lt_some hg)

theorem mid_end (W w5 : World) (p q : Nat) (bs ys : List UInt8) (A0 A5 : Option Addr) (c0 c5 m : Nat) (k : Int) (h : Mid W p q (.slice A0 bs.length c0) bs k)
    (ho : w5.ownsRow (p + 1) 5 1 (.slice A5 (bs.length + m) c5) (bs.length + m) (u8s (bs ++ ys))) (hg : W.drew.grownBy w5 (Value.slice A0 bs.length c0).ownBlock) (hm : ys.length = m) :
    w5.cell? ⟨p, 0, none⟩ = some (.pointer (some ⟨q, 0, none⟩)) ∧ w5.cell? ⟨q, 0, none⟩ = some (.slice A0 bs.length c0) ∧ w5.frozen? ⟨q, 0, none⟩ = false ∧ w5.frozen? ⟨p, 1, none⟩ = false ∧ w5.cell? ⟨p, 1, none⟩ = some (.int .i64 k) ∧
      (Wr ((w5.setCell ⟨q, 0, none⟩ (.slice A5 (bs.length + m) c5)).setCell ⟨p, 1, none⟩ (.int .i64 ((bs.length : Int) + (m : Int)))) p (bs ++ ys) ∧
        Below p W ((w5.setCell ⟨q, 0, none⟩ (.slice A5 (bs.length + m) c5)).setCell ⟨p, 1, none⟩ (.int .i64 ((bs.length : Int) + (m : Int)))) ∧
        Oth W ((w5.setCell ⟨q, 0, none⟩ (.slice A5 (bs.length + m) c5)).setCell ⟨p, 1, none⟩ (.int .i64 ((bs.length : Int) + (m : Int))))) := by
  obtain ⟨h1, hpq, h2, h3⟩ := h
  have p5 : w5.heap[p]? = _ := (hg.block p (lt_some h1) (fun e => own_far h3 h1 (by decide) e.symm)).trans h1
  have q5 : w5.heap[q]? = _ := (hg.block q (lt_some h2) (fun e => own_far h3 h2 (by decide) e.symm)).trans h2
  refine ⟨one_at p5, one_at q5, one_free q5, one_free p5, one_at p5, ?_, ?_, ?_⟩
  · have p6 := (Below.heap_setCell w5 ⟨q, 0, none⟩ (.slice A5 (bs.length + m) c5) p (by show p ≠ q; omega)).trans p5
    have p7 := one_set (i := 1) p6 (.int .i64 ((bs.length : Int) + (m : Int)))
    have q6 := one_set (i := 0) q5 (.slice A5 (bs.length + m) c5)
    have q7 := (Below.heap_setCell (w5.setCell ⟨q, 0, none⟩ (.slice A5 (bs.length + m) c5)) ⟨p, 1, none⟩ (.int .i64 ((bs.length : Int) + (m : Int))) q (by show q ≠ p; omega)).trans q6
    have hl : (bs ++ ys).length = bs.length + m := by rw [List.length_append, hm]
    refine .inr ⟨q, .slice A5 (bs.length + m) c5, ?_, hpq, q7, ?_⟩
    · rw [p7, hl]; simp
    · rw [hl]
      have o6 := ownsRow_setCell_other (a := ⟨q, 0, none⟩) ho (own_far ho q5 (by decide)) (.slice A5 (bs.length + m) c5)
      exact ownsRow_setCell_other (a := ⟨p, 1, none⟩) o6 (own_far o6 p6 (by decide)) _
  · have hl := h3.lt
    have b1 : Below p W w5 := ⟨hg.os, hg.tape, hg.output, hg.size, fun i hi => hg.block i (by have := lt_some h1; show i < W.heap.size; omega) (fun e => by
      have := hl i (by rw [← e])
      omega)⟩
    exact (b1.setCell (by show p ≤ q; omega) _).setCell (Nat.le_refl _) _
  · intro g cs t hgg t1 t2 t3
    have e1 : w5.heap[g]? = W.heap[g]? := hg.block g (lt_some hgg) (fun e => own_far h3 hgg t3 e.symm)
    have nq : g ≠ q := by rintro rfl; rw [hgg] at h2; injection h2 with h2; injection h2 with _ e; exact t2 e
    have np : g ≠ p := by rintro rfl; rw [hgg] at h1; injection h1 with h1; injection h1 with _ e; exact t1 e
    exact ((Below.heap_setCell _ ⟨p, 1, none⟩ _ g (by show g ≠ p; exact np)).trans (Below.heap_setCell _ ⟨q, 0, none⟩ _ g (by show g ≠ q; exact nq))).trans e1

theorem mid_end0 (W w5 : World) (p q : Nat) (ys : List UInt8) (A5 : Option Addr) (c5 m : Nat) (k : Int) (h : Mid W p q (.slice none 0 0) [] k)
    (ho : w5.ownsRow (p + 1) 5 1 (.slice A5 m c5) m (u8s ys)) (hg : W.drew.grownBy w5 (Value.slice none 0 0).ownBlock) (hm : ys.length = m) :
    w5.cell? ⟨p, 0, none⟩ = some (.pointer (some ⟨q, 0, none⟩)) ∧ w5.cell? ⟨q, 0, none⟩ = some (.slice none 0 0) ∧ w5.frozen? ⟨q, 0, none⟩ = false ∧ w5.frozen? ⟨p, 1, none⟩ = false ∧ w5.cell? ⟨p, 1, none⟩ = some (.int .i64 k) ∧
      (Wr ((w5.setCell ⟨q, 0, none⟩ (.slice A5 m c5)).setCell ⟨p, 1, none⟩ (.int .i64 (m : Int))) p ys ∧
        Below p W ((w5.setCell ⟨q, 0, none⟩ (.slice A5 m c5)).setCell ⟨p, 1, none⟩ (.int .i64 (m : Int))) ∧
        Oth W ((w5.setCell ⟨q, 0, none⟩ (.slice A5 m c5)).setCell ⟨p, 1, none⟩ (.int .i64 (m : Int)))) := by
  have H := mid_end W w5 p q [] ys none A5 0 c5 m k h (by simpa using ho) hg hm
  simpa using H

set_option maxHeartbeats 800000 in
theorem add_first (p : Nat) (w : World) (h1 : w.heap[p]? = some (.cells #[.pointer none, .int .i64 0] 277 (0, 0))) {T : Nat → Prop} (A : Option Addr) (m c : Nat) (ys : List UInt8) (hr : Rb w T A m ys) (hT : ∀ g, T g → g ≠ p ∧ g < w.heap.size) (hn : m ≤ 140737488355328) :
    Calls Tryz.prog 217 #[.pointer (some ⟨p, 0, none⟩), .slice A m c] w fun e w' => e = .returned (.tuple #[]) ∧ Wr w' p ys ∧ Below p w w' ∧ Oth w w' := by
  have c0 : w.cell? ⟨p, 0, none⟩ = some (.pointer none) := one_at h1
  have c1 : w.cell? ⟨p, 1, none⟩ = some (.int .i64 0) := one_at h1
  have f0 : w.frozen? ⟨p, 0, none⟩ = false := one_free h1
  have f1 : w.frozen? ⟨p, 1, none⟩ = false := one_free h1
  have hp := lt_some h1
  have B := Lib.hid (fun k => bytes_zero p (w.drewN k) c0)
  have h1' := Lib.hid h1
  clear h1
  go_enter Tryz.func217, Tryz.ntmps217
  go_wp2
  go_quiet (fail)
  have k0 : (w.drewN nq).cell? ⟨p, 0, none⟩ = some (.pointer none) := c0
  have k1 : (w.drewN nq).cell? ⟨p, 1, none⟩ = some (.int .i64 0) := c1
  have g0 : (w.drewN nq).frozen? ⟨p, 0, none⟩ = false := f0
  have g1 : (w.drewN nq).frozen? ⟨p, 1, none⟩ = false := f1
  have kp : p < (w.drewN nq).heap.size := hp
  have kh : Hid ((w.drewN nq).heap[p]? = some (.cells #[.pointer none, .int .i64 0] 277 (0, 0))) := h1'
  have kb : Hid (Below p w (w.drewN nq)) := ⟨rfl, rfl, rfl, Nat.le_refl _, fun _ _ => rfl⟩
  have kx : Hid (∀ g, g < w.heap.size → (w.drewN nq).heap[g]? = w.heap[g]?) := fun _ _ => rfl
  have kr : Hid (Rb (w.drewN nq) T A m ys) := ⟨hr.len, hr.at_⟩
  have kT : Hid (∀ g, T g → g ≠ p ∧ g < (w.drewN nq).heap.size) := hT
  replace B := Lib.hid (B.out nq)
  clear c0 c1 f0 f1 hp hr hT h1'
  generalize w.drewN nq = w1 at *
  go_wp2_with (go_at_call 213; ((with_reducible refine B.out.mono ?_); rintro e w' ⟨rfl, rfl⟩))
  have s0 := kh.out
  have s1 : (w1.setCell ⟨p, 0, none⟩ (.pointer (some ⟨w1.heap.size, 0, none⟩))).heap[p]? = some (.cells #[.pointer (some ⟨w1.heap.size, 0, none⟩), .int .i64 0] 277 (0, 0)) := by
    have := one_set (i := 0) s0 (.pointer (some ⟨w1.heap.size, 0, none⟩))
    simpa using this
  have sz : (w1.setCell ⟨p, 0, none⟩ (.pointer (some ⟨w1.heap.size, 0, none⟩))).heap.size = w1.heap.size := by simp [World.setCell]
  have mid : Mid ((w1.setCell ⟨p, 0, none⟩ (.pointer (some ⟨w1.heap.size, 0, none⟩))).alloc (.cells #[.slice none 0 0] 70)) p w1.heap.size (.slice none 0 0) [] 0 := by
    refine ⟨(heap_alloc_old _ _ (lt_some s1)).trans s1, kp, ?_, World.ownsRow_nil _ _ _ _⟩
    have := heap_alloc_new (w1.setCell ⟨p, 0, none⟩ (.pointer (some ⟨w1.heap.size, 0, none⟩))) (.cells #[.slice none 0 0] 70)
    rw [sz] at this
    exact this
  have kr2 : Hid (Rb ((w1.setCell ⟨p, 0, none⟩ (.pointer (some ⟨w1.heap.size, 0, none⟩))).alloc (.cells #[.slice none 0 0] 70)) T A m ys) :=
    kr.out.keep (fun g hg => (heap_alloc_old _ _ (by rw [sz]; exact (kT.out g hg).2)).trans (Below.heap_setCell _ _ _ _ (kT.out g hg).1)) (fun _ h => h)
  have kb2 : Hid (Below p w ((w1.setCell ⟨p, 0, none⟩ (.pointer (some ⟨w1.heap.size, 0, none⟩))).alloc (.cells #[.slice none 0 0] 70))) :=
    (kb.out.setCell (Nat.le_refl _) _).alloc (by rw [sz]; omega) _
  have kx2 : Hid (Oth w ((w1.setCell ⟨p, 0, none⟩ (.pointer (some ⟨w1.heap.size, 0, none⟩))).alloc (.cells #[.slice none 0 0] 70))) := by
    intro g cs t hgg t1 _ _
    have hg1 := (kx.out g (lt_some hgg)).trans hgg
    have np : g ≠ p := by
      rintro rfl
      have h1 := kh.out
      rw [hg1] at h1; injection h1 with h1; injection h1 with _ e; exact t1 e
    exact ((heap_alloc_old _ _ (by rw [sz]; exact lt_some hg1)).trans (Below.heap_setCell _ ⟨p, 0, none⟩ _ g (by show g ≠ p; exact np))).trans (kx.out g (lt_some hgg))
  clear s0 s1 sz kh kb kx kr kT k0 k1 g0 g1 B kp
  generalize (w1.setCell ⟨p, 0, none⟩ (.pointer (some ⟨w1.heap.size, 0, none⟩))).alloc (.cells #[.slice none 0 0] 70) = W at *
  generalize w1.heap.size = q at *
  have hn : 0 + m ≤ 140737488355328 := by omega
  have d0 : W.cell? ⟨p, 0, none⟩ = some (.pointer (some ⟨q, 0, none⟩)) := one_at mid.1
  have d1 : W.cell? ⟨q, 0, none⟩ = some (.slice none 0 0) := one_at mid.2.2.1
  have dq : q < W.heap.size := lt_some mid.2.2.1
  have dp : p < q := mid.2.1
  have ko2 : Hid (W.drew.ownsRow (p + 1) 5 1 (.slice none 0 0) 0 (u8s [])) := World.ownsRow_nil _ _ _ _
  have kr3 : Hid (Rb W.drew T A m ys) := kr2.out.keep (fun _ _ => rfl) (fun _ h => h)
  have kp3 : p + 1 ≤ W.drew.heap.size := by show p + 1 ≤ W.heap.size; omega
  have E := Lib.hid (fun w5 A5 c5 => mid_end0 W w5 p q ys A5 c5 m 0 mid)
  clear mid kr2
  go_region_law ((refine step_append_b W.drew rfl (.tmp 40) (.tmp 41) rfl (p + 1) (.slice none 0 0) 0 [] (by simp [Act.eval]) ko2.out (T := T) (A := A) (m := m) (c := c) (ys := ys) (by simp [Act.eval]) kr3.out hn kp3 ?_); intro v' w5 hown5 hg5 hat5; simp only [Nat.zero_add, List.nil_append] at hown5; obtain ⟨A5, c5, rfl⟩ := own_form hown5; obtain ⟨e50, e5q, f5q, f51, e51, hfin⟩ := E.out w5 A5 c5 hown5 hg5 kr3.out.len; have hfin' := Lib.hid hfin; have hcap := own_cap hown5; clear hown5 hg5 hat5 hfin)
  all_goals
    go_wp2
    go_end0
    exact ⟨rfl, hfin'.out.1, kb2.out.trans hfin'.out.2.1, kx2.out.trans hfin'.out.2.2⟩

set_option maxHeartbeats 800000 in
theorem add_more (p q : Nat) (w : World) (bs : List UInt8) (v : Value) (h : Mid w p q v bs (bs.length : Int)) {T : Nat → Prop} (A : Option Addr) (m c : Nat) (ys : List UInt8) (hr : Rb w T A m ys) (hn : bs.length + m ≤ 140737488355328) :
    Calls Tryz.prog 217 #[.pointer (some ⟨p, 0, none⟩), .slice A m c] w fun e w' => e = .returned (.tuple #[]) ∧ Wr w' p (bs ++ ys) ∧ Below p w w' ∧ Oth w w' := by
  obtain ⟨A0, c0, rfl⟩ := own_form h.2.2.2
  have k0 : w.cell? ⟨p, 0, none⟩ = some (.pointer (some ⟨q, 0, none⟩)) := one_at h.1
  have k1 : w.cell? ⟨p, 1, none⟩ = some (.int .i64 (bs.length : Int)) := one_at h.1
  have k2 : w.cell? ⟨q, 0, none⟩ = some (.slice A0 bs.length c0) := one_at h.2.2.1
  have hh := Lib.hid h
  clear h
  go_enter Tryz.func217, Tryz.ntmps217
  go_wp2
  go_quiet (fail)
  have mid : Mid (w.drewN nq) p q (.slice A0 bs.length c0) bs (bs.length : Int) := ⟨hh.out.1, hh.out.2.1, hh.out.2.2.1, own_below hh.out.2.2.2 ⟨rfl, rfl, rfl, Nat.le_refl _, fun _ _ => rfl⟩⟩
  have kr2 : Hid (Rb (w.drewN nq) T A m ys) := ⟨hr.len, hr.at_⟩
  have kb2 : Hid (Below p w (w.drewN nq)) := ⟨rfl, rfl, rfl, Nat.le_refl _, fun _ _ => rfl⟩
  have kx2 : Hid (Oth w (w.drewN nq)) := fun _ _ _ _ _ _ _ => rfl
  clear k0 k1 k2 hr hh
  generalize w.drewN nq = W at *
  go_wp2_with fail
  have d0 : W.cell? ⟨p, 0, none⟩ = some (.pointer (some ⟨q, 0, none⟩)) := one_at mid.1
  have d1 : W.cell? ⟨q, 0, none⟩ = some (.slice A0 bs.length c0) := one_at mid.2.2.1
  have dq : q < W.heap.size := lt_some mid.2.2.1
  have dp : p < q := mid.2.1
  have km := Lib.hid mid
  have ko := Lib.hid mid.2.2.2
  clear mid
  have ko2 : Hid (W.drew.ownsRow (p + 1) 5 1 (.slice A0 bs.length c0) bs.length (u8s bs)) := own_below ko.out ⟨rfl, rfl, rfl, Nat.le_refl _, fun _ _ => rfl⟩
  have kr3 : Hid (Rb W.drew T A m ys) := kr2.out.keep (fun _ _ => rfl) (fun _ h => h)
  have kp3 : p + 1 ≤ W.drew.heap.size := by show p + 1 ≤ W.heap.size; omega
  have E := Lib.hid (fun w5 A5 c5 => mid_end W w5 p q bs ys A0 A5 c0 c5 m bs.length km.out)
  clear ko kr2 km
  go_region_law ((refine step_append_b W.drew rfl (.tmp 40) (.tmp 41) rfl (p + 1) (.slice A0 bs.length c0) bs.length bs (by simp [Act.eval]) ko2.out (T := T) (A := A) (m := m) (c := c) (ys := ys) (by simp [Act.eval]) kr3.out hn kp3 ?_); intro v' w5 hown5 hg5 hat5; obtain ⟨A5, c5, rfl⟩ := own_form hown5; obtain ⟨e50, e5q, f5q, f51, e51, hfin⟩ := E.out w5 A5 c5 hown5 hg5 kr3.out.len; have hfin' := Lib.hid hfin; have hcap := own_cap hown5; clear hown5 hg5 hat5 hfin)
  all_goals
    go_wp2
    go_end0
    exact ⟨rfl, hfin'.out.1, kb2.out.trans hfin'.out.2.1, kx2.out.trans hfin'.out.2.2⟩

theorem add_any (p : Nat) (w : World) (bs : List UInt8) (h : Wr w p bs) {T : Nat → Prop} (A : Option Addr) (m c : Nat) (ys : List UInt8) (hr : Rb w T A m ys) (hT : ∀ g, T g → g ≠ p ∧ g < w.heap.size) (hn : bs.length + m ≤ 140737488355328) :
    Calls Tryz.prog 217 #[.pointer (some ⟨p, 0, none⟩), .slice A m c] w fun e w' => e = .returned (.tuple #[]) ∧ Wr w' p (bs ++ ys) ∧ Below p w w' ∧ Oth w w' := by
  rcases h with ⟨h1, rfl⟩ | ⟨q, v, h1, hq, h2, h3⟩
  · exact add_first p w h1 A m c ys hr hT (by simpa using hn)
  · exact add_more p q w bs v ⟨h1, hq, h2, h3⟩ A m c ys hr hn
end Pk
end Go.Proofs.YtpkdigegkemogaaGreatDoor
namespace Go.Proofs.YtpkdigegkemogaaGreatDoor
open Go.RowKit
namespace Pk

theorem xor_u64_zero (x : Nat) (h : x < 18446744073709551616) : bits .xor .u64 (x : Int) 0 = x := by
  have := u64_xor_nat x 0 h (by omega)
  rwa [Nat.xor_zero] at this
theorem xor_u64_ones (x : Nat) (h : x < 18446744073709551616) : bits .xor .u64 (x : Int) 18446744073709551615 = ((18446744073709551615 - x : Nat) : Int) := by
  have h1 : BitVec.ofInt 64 18446744073709551615 = BitVec.allOnes 64 := by decide
  have h2 : (BitVec.ofInt 64 (x : Int)).toNat = x := by rw [BitVec.ofInt_natCast, BitVec.toNat_ofNat]; exact Nat.mod_eq_of_lt (by omega)
  show IntKind.u64.wrap ((BitVec.ofInt 64 (x : Int) ^^^ BitVec.ofInt 64 18446744073709551615).toNat : Int) = _
  rw [h1, BitVec.xor_allOnes, BitVec.toNat_not, h2, IntKind.wrap_u64]
  omega
theorem fold_eq (v : Int) (h1 : -9223372036854775808 ≤ v) (h2 : v ≤ 9223372036854775807) :
    bits .xor .u64 (IntKind.u64.wrap (IntKind.u64.wrap v * 2)) (IntKind.u64.wrap (v / 9223372036854775808)) = ((zz v : Nat) : Int) := by
  by_cases h : 0 ≤ v
  · have e1 : IntKind.u64.wrap (IntKind.u64.wrap v * 2) = ((zz v : Nat) : Int) := by rw [IntKind.wrap_u64, IntKind.wrap_u64]; unfold zz; rw [if_pos h]; omega
    have e2 : IntKind.u64.wrap (v / 9223372036854775808) = 0 := by rw [IntKind.wrap_u64]; omega
    rw [e1, e2, xor_u64_zero _ (zz_lt v h1 h2)]
  · have e1 : IntKind.u64.wrap (IntKind.u64.wrap v * 2) = (((2 * v + 18446744073709551616).toNat : Nat) : Int) := by rw [IntKind.wrap_u64, IntKind.wrap_u64]; omega
    have e2 : IntKind.u64.wrap (v / 9223372036854775808) = 18446744073709551615 := by rw [IntKind.wrap_u64]; omega
    rw [e1, e2, xor_u64_ones _ (by omega)]
    unfold zz
    rw [if_neg h]; omega
theorem ret_u64 {a b : Int} (h : a = b) : Ending.returned (.int .u64 a) = .returned (.int .u64 b) := by rw [h]
set_option maxHeartbeats 400000 in
theorem fold_any (v : Int) (w : World) (h1 : -9223372036854775808 ≤ v) (h2 : v ≤ 9223372036854775807) :
    Calls Tryz.prog 216 #[.int .i64 v] w fun e w' => e = .returned (.int .u64 ((zz v : Nat) : Int)) ∧ w = w' := by
  go_enter Tryz.func216, Tryz.ntmps216
  go_wp2
  go_ret
  exact ⟨ret_u64 (fold_eq v h1 h2), rfl⟩

theorem byte_lo (x : Nat) (h : x < 128) : (x : Int) = ((UInt8.ofNat x).toNat : Int) := by rw [ofNat_toNat (by omega)]
set_option maxRecDepth 10000 in
theorem or128 : ∀ n : Fin 256, (n.val ||| 128) = n.val % 128 + 128 := by decide
theorem byte_hi (x : Nat) : bits .or .u8 ((x : Int) % 256) 128 = ((UInt8.ofNat (x % 128 + 128)).toNat : Int) := by
  rw [ofNat_toNat (by omega)]
  have e : ((x : Int) % 256) = ((x % 256 : Nat) : Int) := by omega
  have h := u8_or_nat (x % 256) 128 (by omega) (by omega)
  rw [e]
  have d' := or128 ⟨x % 256, by omega⟩
  simp only at d'
  rw [d'] at h
  rw [show ((128 : Nat) : Int) = 128 from rfl] at h
  rw [h]; omega
theorem rb_one (W : World) (v : Int) (c : UInt8) (h : v = (c.toNat : Int)) : Rb (W.alloc (.cells #[.int .u8 v] 5)) (fun g => g = W.heap.size) (some ⟨W.heap.size, 0, none⟩) 1 [c] :=
  ⟨rfl, fun _ => ⟨_, rfl, rfl, fun j x hj => by
    match j, hj with
    | 0, hj =>
      simp at hj
      subst hj
      rw [Addr.add_zero', h]
      exact one_at (heap_alloc_new _ _)⟩⟩
theorem Wr.alloc {w : World} {p : Nat} {bs : List UInt8} (h : Wr w p bs) (o : Obj) : Wr (w.alloc o) p bs := h.below ((Below.refl _ _).alloc (Nat.le_refl _) _)

structure WrTo (w : World) (p : Nat) (bs : List UInt8) (w' : World) : Prop where
  wr : Wr w' p bs
  be : Below p w w'
  ot : Oth w w'
theorem WrTo.trans {a b c : World} {p : Nat} {xs ys : List UInt8} (h : WrTo a p xs b) (k : WrTo b p ys c) : WrTo a p ys c := ⟨k.wr, h.be.trans k.be, h.ot.trans k.ot⟩

theorem add_one (p : Nat) (W : World) (bs : List UInt8) (h : Wr W p bs) (v : Int) (c : UInt8) (hv : v = (c.toNat : Int)) (hn : bs.length ≤ 140737488355327) :
    Calls Tryz.prog 217 #[.pointer (some ⟨p, 0, none⟩), .slice (some ⟨W.heap.size, 0, none⟩) 1 1] (W.alloc (.cells #[.int .u8 v] 5)) fun e w' => e = .returned (.tuple #[]) ∧ WrTo W p (bs ++ [c]) w' := by
  refine (add_any p _ bs (h.alloc _) (some ⟨W.heap.size, 0, none⟩) 1 1 [c] (rb_one W v c hv) (fun g hg => by subst hg; have := h.lt; simp; omega) (by omega)).mono ?_
  rintro e w' ⟨rfl, h1, h2, h3⟩
  exact ⟨rfl, h1, ((Below.refl p W).alloc (Nat.le_of_lt h.lt) _).trans h2, (Oth.below ((Below.refl _ W).alloc (Nat.le_refl _) _)).trans h3⟩

def PutAt (w : World) (p : Nat) (all : List UInt8) (n : Nat) (u : Value) (wr : World) : Prop :=
  ∃ (x : Nat) (pre : List UInt8), u = .int .u64 x ∧ x < 18446744073709551616 ∧ WrTo w p pre wr ∧ pre ++ enc x = all ∧ all.length ≤ n

set_option maxHeartbeats 800000 in
set_option maxRecDepth 100000 in
theorem wint_any (p : Nat) (w : World) (bs : List UInt8) (h : Wr w p bs) (v : Int) (h1 : -9223372036854775808 ≤ v) (h2 : v ≤ 9223372036854775807) (hn : bs.length ≤ 140737488355317) :
    Calls Tryz.prog 214 #[.pointer (some ⟨p, 0, none⟩), .int .i64 v] w fun e w' => e = .returned (.tuple #[]) ∧ WrTo w p (bs ++ encI v) w' := by
  have F := Lib.hid (fold_any v w h1 h2)
  have H := Lib.hid h
  have Z := Lib.hid (zz_lt v h1 h2)
  have L := Lib.hid (encI_len v h1 h2)
  clear h
  go_enter Tryz.func214, Tryz.ntmps214
  go_wp2_with (go_at_call 216; go_loud ((with_reducible refine F.out.mono ?_); rintro e w' ⟨rfl, rfl⟩))
  go_loopw [4] (fun u wr => PutAt w p (bs ++ encI v) 140737488355327 u wr) (fun u _ => (intOf u).toNat)
  case atStart => exact ⟨zz v, bs, rfl, Z.out, ⟨H.out, Below.refl _ _, Oth.refl _⟩, rfl, by rw [List.length_append]; have := L.out; omega⟩
  case round =>
    obtain ⟨x, pre, rfl, hx, hw, hall, hlen⟩ := hrel
    have hx' := Lib.hid hx
    have hw' := Lib.hid hw
    have hall' := Lib.hid hall
    have hpre : Hid (pre.length ≤ 140737488355326) := by
      have := enc_ne x
      rw [← hall, List.length_append] at hlen
      show _ ≤ _
      omega
    have hlen' := Lib.hid hlen
    clear hx hw hall hlen
    by_cases hgt : 127 < x
    · have A1 := Lib.hid (add_one p wr pre hw'.out.wr _ _ (byte_hi x) (by have := hpre.out; omega))
      go_wp2_with (go_at_call 217; go_loud ((with_reducible refine A1.out.mono ?_); rintro e w' ⟨rfl, hw2⟩))
      go_roundw
      case rel =>
        refine ⟨x / 128, pre ++ [UInt8.ofNat (x % 128 + 128)], by simp, by have := hx'.out; omega, hw'.out.trans hw2, ?_, hlen'.out⟩
        have e := enc_hi (u := x) (by omega)
        rw [← hall'.out, e, List.append_assoc]; rfl
      case measure => simp [intOf]; omega
    · have A1 := Lib.hid (add_one p wr pre hw'.out.wr _ _ (byte_lo x (by omega)) (by have := hpre.out; omega))
      go_wp2_with (go_at_call 217; ((with_reducible refine A1.out.mono ?_); rintro e w' ⟨rfl, hw2⟩))
      go_end0
      refine ⟨rfl, ?_⟩
      have h3 := hw'.out.trans hw2
      rw [← hall'.out, enc_lo (by omega)]
      exact h3

theorem str_size (ys : List UInt8) : (str ys).size = ys.length := by simp [str, ByteArray.size]
end Pk
end Go.Proofs.YtpkdigegkemogaaGreatDoor
namespace Go.Proofs.YtpkdigegkemogaaGreatDoor
open Go.RowKit
namespace Pk

theorem u64_not (x : Nat) (h : x < 18446744073709551616) : bits .xor .u64 IntKind.u64.max (x : Int) = ((18446744073709551615 - x : Nat) : Int) := by
  have hc : bits .xor .u64 IntKind.u64.max (x : Int) = bits .xor .u64 (x : Int) 18446744073709551615 := by
    rw [show IntKind.u64.max = 18446744073709551615 from by decide]
    simp only [bits, BitVec.xor_comm]
  rw [hc, xor_u64_ones x h]
theorem zz_pos {v : Int} (h : 0 ≤ v) : v * 2 = ((zz v : Nat) : Int) := by unfold zz; rw [if_pos h]; omega
theorem zz_neg {v : Int} (h : v < 0) (h1 : -9223372036854775808 ≤ v) : bits .xor .u64 IntKind.u64.max (IntKind.u64.wrap (IntKind.u64.wrap v * 2)) = ((zz v : Nat) : Int) := by
  have e1 : IntKind.u64.wrap (IntKind.u64.wrap v * 2) = (((2 * v + 18446744073709551616).toNat : Nat) : Int) := by rw [IntKind.wrap_u64, IntKind.wrap_u64]; omega
  rw [e1, u64_not _ (by omega)]
  unfold zz
  rw [if_neg (by omega)]; omega

def RefAt (w : World) (all : List UInt8) (u v : Value) (wr : World) : Prop :=
  ∃ (x : Nat) (pre : List UInt8), u = .int .u64 x ∧ x < 18446744073709551616 ∧ wr.ownsRow w.heap.size 5 1 v pre.length (u8s pre) ∧ pre ++ enc x = all ∧ pre.length ≤ 10 ∧ Below w.heap.size w wr
theorem ref_next {w wr w6 : World} {all pre : List UInt8} {x : Nat} {A : Option Addr} {c : Nat} {v6 : Value} {b : Int} (hx : 127 < x) (hx2 : x < 18446744073709551616) (hall : pre ++ enc x = all) (hl : all.length ≤ 10) (hb : Below w.heap.size w wr)
    (ho : wr.ownsRow w.heap.size 5 1 (.slice A pre.length c) pre.length (u8s pre)) (h6 : w6.ownsRow w.heap.size 5 1 v6 (pre.length + 1) (u8s (pre ++ [UInt8.ofNat (x % 128 + 128)]))) (hg6 : (wr.alloc (.cells #[.int .u8 b] 5)).grownBy w6 (Value.slice A pre.length c).ownBlock) :
    RefAt w all (.int .u64 ((x : Int) / 128)) v6 w6 := by
  refine ⟨x / 128, pre ++ [UInt8.ofNat (x % 128 + 128)], by simp, by omega, by rw [List.length_append]; exact h6, ?_, ?_, (hb.alloc hb.size _).grown hg6 (by simp; exact Nat.le_trans hb.size (Nat.le_succ _)) (fun i hi => (ho.lt i hi).1)⟩
  · have e := enc_hi (u := x) (by omega)
    rw [← hall, e, List.append_assoc]; rfl
  · have := congrArg List.length hall
    rw [List.length_append] at this
    have := enc_ne x
    simp; omega

theorem ref_last {w wr w6 : World} {pre : List UInt8} {A : Option Addr} {c : Nat} {b : Int} (hb : Below w.heap.size w wr) (ho : wr.ownsRow w.heap.size 5 1 (.slice A pre.length c) pre.length (u8s pre))
    (hg6 : (wr.alloc (.cells #[.int .u8 b] 5)).grownBy w6 (Value.slice A pre.length c).ownBlock) : Below w.heap.size w w6 :=
  (hb.alloc hb.size _).grown hg6 (by simp; exact Nat.le_trans hb.size (Nat.le_succ _)) (fun i hi => (ho.lt i hi).1)

def RefTo (w : World) (bs : List UInt8) (e : Ending) (w' : World) : Prop := e = .returned (.string (str bs)) ∧ Below w.heap.size w w'

set_option maxHeartbeats 1600000 in
set_option maxRecDepth 100000 in
theorem refint (w : World) (v : Int) (h1 : -9223372036854775808 ≤ v) (h2 : v ≤ 9223372036854775807) :
    Calls Tryz.prog 54 #[.int .i64 v] w (RefTo w (encI v)) := by
  have Z := Lib.hid (zz_lt v h1 h2)
  have L := Lib.hid (encI_len v h1 h2)
  have st : Hid (∀ (e : Int), e = ((zz v : Nat) : Int) → RefAt w (encI v) (.int .u64 e) (.slice none 0 0) w) := fun e he => by
    rw [he]
    exact ⟨zz v, [], rfl, Z.out, World.ownsRow_nil _ _ _ _, rfl, by simp, Below.refl _ _⟩
  have P0 : Hid (0 ≤ v → v * 2 = ((zz v : Nat) : Int)) := fun h => zz_pos h
  have P1 : Hid (v < 0 → bits .xor .u64 IntKind.u64.max (IntKind.u64.wrap (IntKind.u64.wrap v * 2)) = ((zz v : Nat) : Int)) := fun h => zz_neg h h1
  by_cases hv : v < 0
  all_goals
    go_enter Tryz.func54, Tryz.ntmps54
    go_wp2
    go_loopw [3, 4] (fun u s wr => RefAt w (encI v) u s wr) (fun u _ _ => (intOf u).toNat)
    case atStart =>
      first
        | exact st.out _ (P1.out (by omega))
        | exact st.out _ (P0.out (by omega))
    case round =>
      obtain ⟨x, pre, rfl, hx, ho, hall, hl, hb⟩ := hrel
      obtain ⟨A, c, rfl⟩ := own_form ho
      replace hx := Lib.hid hx
      replace ho := Lib.hid ho
      replace hall := Lib.hid hall
      replace hb := Lib.hid hb
      have hsz : Hid (w.heap.size ≤ wr.heap.size) := hb.out.size
      have hnb : pre.length + 1 ≤ 140737488355328 := by omega
      by_cases hgt : 127 < x
      · have Rn : Hid _ := rb_one wr _ _ (byte_hi x)
        have On : Hid _ := ho.out.alloc (.cells #[.int .u8 (bits .or .u8 ((x : Int) % 256) 128)] 5)
        go_wp2_with (at_builtin; refine wpList_append_b _ rfl (.tmp 14) (.tmp 18) rfl w.heap.size (.slice A pre.length c) pre.length pre rfl On.out rfl Rn.out hnb (by have := hsz.out; simp; omega) ?_; intro v6 w6 hown6 hg6 _; have st6 : Hid (RefAt w (encI v) (.int .u64 ((x : Int) / 128)) v6 w6) := ref_next hgt hx.out hall.out L.out hb.out ho.out hown6 hg6; clear hown6 hg6)
        go_roundw
        case rel => exact st6.out
        case measure => simp [intOf]; omega
      · have Rn : Hid _ := rb_one wr _ _ (byte_lo x (by omega))
        have On : Hid _ := ho.out.alloc (.cells #[.int .u8 (x : Int)] 5)
        have hfin : Hid (pre ++ [UInt8.ofNat x] = encI v) := by have := hall.out; rw [enc_lo (by omega)] at this; exact this
        go_wp2_with (at_builtin; refine wpList_append_b _ rfl (.tmp 22) (.tmp 25) rfl w.heap.size (.slice A pre.length c) pre.length pre rfl On.out rfl Rn.out hnb (by have := hsz.out; simp; omega) ?_; intro v6 w6 hown6 hg6 _; obtain ⟨A6, c6, rfl⟩ := own_form hown6; have hs6 := str_run (c := c6) (Rb.of_own hown6); have be6 : Hid (Below w.heap.size w w6) := ref_last hb.out ho.out hg6; clear hown6 hg6)
        go_ret
        refine ⟨?_, be6.out⟩
        show Ending.returned (.string (str (pre ++ [UInt8.ofNat x]))) = _
        rw [hfin.out]

theorem str_cat (a b : List UInt8) : str a ++ str b = str (a ++ b) := by unfold str; rw [ByteArray.mk_append_mk]
theorem str_add (a b : List UInt8) (h : a.length + b.length ≤ 9223372036854775807) (w : World) : (Op.stringOp .add (str a) (str b)).run Tryz.prog w = .ok (.string (str (a ++ b))) w := by
  rw [run_string_add_sum w _ _ (by rw [str_size, str_size]; exact h), str_cat]

end Pk
end Go.Proofs.YtpkdigegkemogaaGreatDoor
