/- Parts of the claim: SgM, SgA, SgB, SgC, SbM, SgF, SgN -/
import Derived.Deep.RegionLaw
import Derived.Deep.RegionWith
import Derived.Laws.ResultCell
import Derived.Deep.CutRange
import Derived.Deep.CutBlock
import Derived.Deep.RegionHeld3
import Derived.Test.YtpkdigegkemogaaGreatDoorPlXaP
import Derived.Test.YtpkdigegkemogaaGreatDoorPlXbP
import Derived.Test.YtpkdigegkemogaaGreatDoorPlXcP
import Derived.Test.YtpkdigegkemogaaGreatDoorWtXbP
namespace Go.Proofs.YtpkdigegkemogaaGreatDoor
open Go.RowKit
namespace Sg
open Wt (Wan may Opn mayOp mayU inR)
open Pl (Stp fwd bck cap z0)

structure Sag where
  w : Wan
  ph : Int
  st : Int
  rs : Int
  si : Int
deriving DecidableEq
def sz : Sag := ⟨⟨0, 0, 0, 0, 0, 0, 0⟩, 0, 0, 0, 0⟩
def why (s : Sag) : Bool := decide (1 ≤ s.rs) && decide (s.rs ≤ 4) && (!(s.rs == 3) || decide (0 < s.w.dead))
def nF (s : Sag) : Int := ((fwd s.w).length : Int)
def nB (s : Sag) : Int := ((bck s.w).length : Int)
def phs (s : Sag) : Bool :=
  if s.ph = 1 then decide (0 ≤ s.st) && decide (s.st < nF s) && s.rs == 0
  else if s.ph = 2 ∨ s.ph = 4 then s.st == 0 && s.rs == 0
  else if s.ph = 3 then decide (0 ≤ s.st) && decide (s.st < nB s) && why s
  else if s.ph = 5 then s.st == 0 && why s
  else false
def smay (s : Sag) : Bool := may s.w && inR s.si 0 1099511627776 && phs s
def atF (s : Sag) : Stp := ((fwd s.w)[s.st.toNat]?).getD z0
def atB (s : Sag) : Stp := ((bck s.w)[s.st.toNat]?).getD z0
def snext (s : Sag) : Stp × Bool :=
  if smay s = true then
    if s.ph = 1 then (atF s, true)
    else if s.ph = 2 then (cap s.w, true)
    else if s.ph = 3 then (atB s, true)
    else (z0, false)
  else (z0, false)
def sback (s : Sag) (r : Int) : Sag := { s with ph := 3, st := 0, rs := r }
def sdone (s : Sag) : Sag :=
  if s.ph = 1 then (if s.st + 1 = nF s then { s with ph := 2, st := 0 } else { s with st := s.st + 1 })
  else if s.ph = 2 then { s with ph := 4, st := 0 }
  else (if s.st + 1 = nB s then { s with ph := 5, st := 0 } else { s with st := s.st + 1 })
def sans (s : Sag) (a : Stp) (n : Int) : Sag × Bool :=
  if (snext s).2 = true ∧ (snext s).1 = a ∧ (n = 1 ∨ n = 2) then
    if n = 2 then
      if s.ph = 1 then (if a.op.kind = 4 then (sback s 2, true) else (sback s 1, true)) else (s, false)
    else (sdone s, true)
  else (s, false)
def scan (s : Sag) : Sag × Bool := if smay s = true ∧ s.ph = 1 then (sback s 4, true) else (s, false)
def slate (s : Sag) (now : Int) : Sag × Bool :=
  if smay s = true ∧ s.ph = 1 ∧ 0 < s.w.dead ∧ now ≤ 1099511627776 ∧ s.si + s.w.dead ≤ now then (sback s 3, true) else (s, false)
def sover (s : Sag) : Bool := smay s && (s.ph == 4 || s.ph == 5)
def snew (w : Wan) (now : Int) : Sag × Int := if may w = true ∧ inR now 0 1099511627776 = true then (⟨w, 1, 0, 0, now⟩, 0) else (sz, 1)
end Sg
end Go.Proofs.YtpkdigegkemogaaGreatDoor
namespace Go.Proofs.YtpkdigegkemogaaGreatDoor
set_option maxRecDepth 100000
open Go.RowKit
open Go.Proofs.YtpkdigegkemogaaGreatDoor.Pk (one_at one_free one_set lt_some grown_set grown_trans grown_refl)
namespace Sg
open Wt (Wan may Opn mayOp may_any below_drewN)
open Pl (Stp fwd bck cap z0 wanv spv RowT rt_form rt_mono fwd_any bck_any cap_any)

abbrev sgc (s : Sag) : Array Value := #[.int .i64 s.w.book, .int .i64 s.w.cust, .int .i64 s.w.dead, .int .i64 s.w.u0, .int .i64 s.w.u1, .int .i64 s.w.u2, .int .i64 s.w.price, .int .i64 s.ph, .int .i64 s.st, .int .i64 s.rs, .int .i64 s.si]
abbrev sgv (s : Sag) : Value := .agg (sgc s)
def BoxS (w : World) (g : Nat) (s : Sag) : Prop := w.heap[g]? = some (.cells (sgc s) 57 (0, 0))
structure CellS (w : World) (g : Nat) (s : Sag) : Prop where
  c0 : w.cell? ⟨g, 0, none⟩ = some (.int .i64 s.w.book)
  c1 : w.cell? ⟨g, 1, none⟩ = some (.int .i64 s.w.cust)
  c2 : w.cell? ⟨g, 2, none⟩ = some (.int .i64 s.w.dead)
  c3 : w.cell? ⟨g, 3, none⟩ = some (.int .i64 s.w.u0)
  c4 : w.cell? ⟨g, 4, none⟩ = some (.int .i64 s.w.u1)
  c5 : w.cell? ⟨g, 5, none⟩ = some (.int .i64 s.w.u2)
  c6 : w.cell? ⟨g, 6, none⟩ = some (.int .i64 s.w.price)
  c7 : w.cell? ⟨g, 7, none⟩ = some (.int .i64 s.ph)
  c8 : w.cell? ⟨g, 8, none⟩ = some (.int .i64 s.st)
  c9 : w.cell? ⟨g, 9, none⟩ = some (.int .i64 s.rs)
  ca : w.cell? ⟨g, 10, none⟩ = some (.int .i64 s.si)
section
variable {w w' : World} {g B : Nat} {s : Sag}
theorem BoxS.lt (h : BoxS w g s) : g < w.heap.size := lt_some h
theorem BoxS.below (h : BoxS w g s) (hb : Below B w w') (hg : g < B) : BoxS w' g s := (hb.block g hg).trans h
theorem BoxS.cells (h : BoxS w g s) : CellS w g s := ⟨one_at h, one_at h, one_at h, one_at h, one_at h, one_at h, one_at h, one_at h, one_at h, one_at h, one_at h⟩
end
theorem sag_size : (Tryz.prog.info? 57).map (·.size) = some 11 := by kernel_rfl
theorem one11 (s : Sag) : (sgc s).all (·.oneCell') = true := by simp [sgc, Value.oneCell']
theorem res_row {P : Program} {fn : Func} {p u : Tmp} {ty : TypeId} (h : fn.results = #[.cell p ty, .tmp u]) (tmps : Array Value) (w : World) (g : Nat) (t : TypeId) (cs : Array Value) (fr : Nat × Nat) (d : TypeDesc) (hp : tmps.getD p undef = .pointer (some ⟨g, 0, none⟩)) (hg : w.heap[g]? = some (.cells cs t fr))
    (hu : P.underlying ty = some d) (hd : (match d with | .struct _ | .array _ _ => true | _ => false) = true) (hi : (P.info? ty).map (·.size) = some cs.size) :
    (results fn tmps).run P w = .ok (.tuple #[.agg cs, tmps.getD u undef]) w := by
  rw [results_cell_tmp h, hp]
  simp [asAddr, run_loadVar_row w g t ty cs fr d hg hu hd hi]
theorem step_store_row {P : Program} {ops : Array Oper} {o : Oper} {a : Act} {w : World} {K : Act → World → Prop} {Q : Exit → Act → World → Prop} {E : Prop} (hgd : o.guard = none) (ty : TypeId) (x y : Operand) (ho : o.op = .store ty x y)
    (g : Nat) (cells : Array Value) (hx : a.eval x = .pointer (some ⟨g, 0, none⟩)) (hy : a.eval y = .agg cells)
    (t : TypeId) (old : Array Value) (hg : w.heap[g]? = some (.cells old t (0, 0))) (hi : (P.info? ty).map (·.size) = some cells.size)
    (hold : old.size = cells.size) (h1 : cells.all (·.oneCell') = true)
    (h : K (a.put o.dst undef) (w.setRow g cells)) : if Region.wanted o (yielded ops a.tmps) = true then Oper.wp P o a w K Q else E := by
  have hw : Region.wanted o (yielded ops a.tmps) = true := by simp [Region.wanted, hgd]
  rw [if_pos hw]
  exact wp_store_row ty x y ho g cells hx hy t old hg hi hold h1 h
end Sg
end Go.Proofs.YtpkdigegkemogaaGreatDoor
namespace Go.Proofs.YtpkdigegkemogaaGreatDoor
set_option maxRecDepth 100000
open Go.RowKit
open Go.Proofs.YtpkdigegkemogaaGreatDoor.Pk (one_at one_free one_set lt_some grown_set grown_trans grown_refl)
namespace Sg
open Wt (Wan may Opn mayOp may_any below_drewN inR)
open Pl (Stp fwd bck cap z0 wanv spv RowT rt_form rt_mono fwd_any bck_any cap_any)

theorem smay_no1 {s : Sag} (h : may s.w = false) : smay s = false := by unfold smay; rw [h]; rfl
theorem phs_1 {s : Sag} (h : s.ph = 1) : phs s = (decide (0 ≤ s.st) && decide (s.st < nF s) && s.rs == 0) := by unfold phs; rw [if_pos h]
theorem phs_2 {s : Sag} (h : s.ph = 2 ∨ s.ph = 4) : phs s = (s.st == 0 && s.rs == 0) := by unfold phs; rw [if_neg (by omega), if_pos h]
theorem phs_3 {s : Sag} (h : s.ph = 3) : phs s = (decide (0 ≤ s.st) && decide (s.st < nB s) && why s) := by unfold phs; rw [if_neg (by omega), if_neg (by omega), if_pos h]
theorem phs_5 {s : Sag} (h : s.ph = 5) : phs s = (s.st == 0 && why s) := by unfold phs; rw [if_neg (by omega), if_neg (by omega), if_neg (by omega), if_pos h]
theorem phs_0 {s : Sag} (h : s.ph < 1 ∨ 5 < s.ph) : phs s = false := by unfold phs; rw [if_neg (by omega), if_neg (by omega), if_neg (by omega), if_neg (by omega)]
end Sg
end Go.Proofs.YtpkdigegkemogaaGreatDoor
namespace Go.Proofs.YtpkdigegkemogaaGreatDoor
set_option maxRecDepth 100000
open Go.RowKit
open Go.Proofs.YtpkdigegkemogaaGreatDoor.Pk (one_at one_free one_set lt_some grown_set grown_trans grown_refl)
namespace Sg
open Wt (Wan may Opn mayOp may_any below_drewN inR)
open Pl (Stp fwd bck cap z0 wanv spv RowT rt_form rt_mono rt_cell At fwd_any bck_any cap_any regionAt one6 wpList_store_row setRow_below)

theorem smay_true {s : Sag} (h : smay s = true) : may s.w = true ∧ (0 ≤ s.si ∧ s.si ≤ 1099511627776) ∧ ((s.ph = 1 ∧ 0 ≤ s.st ∧ s.st < nF s ∧ s.rs = 0) ∨ (s.ph = 2 ∧ s.st = 0 ∧ s.rs = 0) ∨ (s.ph = 3 ∧ 0 ≤ s.st ∧ s.st < nB s ∧ why s = true) ∨ (s.ph = 4 ∧ s.st = 0 ∧ s.rs = 0) ∨ (s.ph = 5 ∧ s.st = 0 ∧ why s = true)) := by
  unfold smay at h
  simp only [Bool.and_eq_true] at h
  obtain ⟨⟨h1, h2⟩, h3⟩ := h
  have h2' := of_decide_eq_true h2
  refine ⟨h1, ⟨h2'.1, h2'.2⟩, ?_⟩
  rcases (by omega : s.ph = 1 ∨ s.ph = 2 ∨ s.ph = 3 ∨ s.ph = 4 ∨ s.ph = 5 ∨ (s.ph < 1 ∨ 5 < s.ph)) with hp | hp | hp | hp | hp | hp
  · rw [phs_1 hp] at h3
    simp only [Bool.and_eq_true, decide_eq_true_iff, beq_iff_eq] at h3
    exact .inl ⟨hp, h3.1.1, h3.1.2, h3.2⟩
  · rw [phs_2 (.inl hp)] at h3
    simp only [Bool.and_eq_true, beq_iff_eq] at h3
    exact .inr (.inl ⟨hp, h3.1, h3.2⟩)
  · rw [phs_3 hp] at h3
    simp only [Bool.and_eq_true, decide_eq_true_iff] at h3
    exact .inr (.inr (.inl ⟨hp, h3.1.1, h3.1.2, h3.2⟩))
  · rw [phs_2 (.inr hp)] at h3
    simp only [Bool.and_eq_true, beq_iff_eq] at h3
    exact .inr (.inr (.inr (.inl ⟨hp, h3.1, h3.2⟩)))
  · rw [phs_5 hp] at h3
    simp only [Bool.and_eq_true, beq_iff_eq] at h3
    exact .inr (.inr (.inr (.inr ⟨hp, h3.1, h3.2⟩)))
  · rw [phs_0 hp] at h3
    cases h3
theorem snext_no {s : Sag} (h : smay s = false) : snext s = (z0, false) := by unfold snext; rw [if_neg (by rw [h]; decide)]
theorem snext_1 {s : Sag} (h : smay s = true) (hp : s.ph = 1) : snext s = (atF s, true) := by unfold snext; rw [if_pos h, if_pos hp]
theorem snext_2 {s : Sag} (h : smay s = true) (hp : s.ph = 2) : snext s = (cap s.w, true) := by unfold snext; rw [if_pos h, if_neg (by omega), if_pos hp]
theorem snext_3 {s : Sag} (h : smay s = true) (hp : s.ph = 3) : snext s = (atB s, true) := by unfold snext; rw [if_pos h, if_neg (by omega), if_neg (by omega), if_pos hp]
theorem snext_4 {s : Sag} (h : smay s = true) (hp : s.ph = 4 ∨ s.ph = 5) : snext s = (z0, false) := by unfold snext; rw [if_pos h, if_neg (by omega), if_neg (by omega), if_neg (by omega)]
theorem at_F {s : Sag} (h0 : 0 ≤ s.st) (h1 : s.st < nF s) : (fwd s.w)[s.st.toNat]? = some (atF s) := by
  unfold nF at h1
  unfold atF
  rw [List.getElem?_eq_getElem (by omega)]
  rfl
theorem at_B {s : Sag} (h0 : 0 ≤ s.st) (h1 : s.st < nB s) : (bck s.w)[s.st.toNat]? = some (atB s) := by
  unfold nB at h1
  unfold atB
  rw [List.getElem?_eq_getElem (by omega)]
  rfl
end Sg
end Go.Proofs.YtpkdigegkemogaaGreatDoor
namespace Go.Proofs.YtpkdigegkemogaaGreatDoor
open Go.RowKit
open Go.Proofs.YtpkdigegkemogaaGreatDoor.Pk
namespace Sb
open Go.Proofs.YtpkdigegkemogaaGreatDoor.Sg
open Wt (Wan may inR wz raw may_I I cat cat_app cat_cons cat_len)

def szs (s : Sag) : List Int := wz s.w ++ [s.ph, s.st, s.rs, s.si]
def sput (s : Sag) : List UInt8 := cat (szs s)
theorem szs_len (s : Sag) : (szs s).length = 11 := rfl
theorem sput_eq (s : Sag) : sput s = raw s.w ++ cat [s.ph, s.st, s.rs, s.si] := cat_app _ _
theorem tail_in {s : Sag} (h : smay s = true) : (0 ≤ s.ph ∧ s.ph ≤ 5) ∧ (0 ≤ s.st ∧ s.st ≤ 7) ∧ (0 ≤ s.rs ∧ s.rs ≤ 4) ∧ 0 ≤ s.si ∧ s.si ≤ 1099511627776 := by
  obtain ⟨-, h2, hc⟩ := smay_true h
  have l1 := Pl.fwd_len s.w
  have l2 := Pl.bck_len s.w
  unfold nF nB at hc
  have hw : why s = true → 0 ≤ s.rs ∧ s.rs ≤ 4 := fun h => by
    unfold why at h
    simp only [Bool.and_eq_true, decide_eq_true_iff] at h
    omega
  rcases hc with ⟨hp, h0, h1, hr⟩ | ⟨hp, h0, hr⟩ | ⟨hp, h0, h1, hr⟩ | ⟨hp, h0, hr⟩ | ⟨hp, h0, hr⟩
  · omega
  · omega
  · have := hw hr; omega
  · omega
  · have := hw hr; omega
theorem szs_I {s : Sag} (h : smay s = true) : ∀ z ∈ szs s, I z := by
  intro z hz
  have ht := tail_in h
  unfold szs at hz
  rcases List.mem_append.1 hz with hz | hz
  · exact may_I (smay_true h).1 z hz
  · simp only [List.mem_cons, List.not_mem_nil, or_false] at hz
    unfold I
    rcases hz with rfl | rfl | rfl | rfl <;> omega
theorem sput_len {s : Sag} (h : smay s = true) : (sput s).length ≤ 110 := by
  have := cat_len (szs s) (szs_I h)
  rw [szs_len] at this
  exact this
end Sb
end Go.Proofs.YtpkdigegkemogaaGreatDoor
namespace Go.Proofs.YtpkdigegkemogaaGreatDoor
set_option maxRecDepth 100000
open Go.RowKit
namespace Sg
open Wt (Wan may Opn mayOp)
open Pl (Stp spv)

theorem eq_op9 (w : World) (x y : Opn) : (Op.equalIn 9999 34 (.agg #[.int .i64 x.kind, .int .i64 x.book, .int .i64 x.units, .int .i64 x.cust, .int .i64 x.amount]) (.agg #[.int .i64 y.kind, .int .i64 y.book, .int .i64 y.units, .int .i64 y.cust, .int .i64 y.amount])).run Tryz.prog w = .ok (decide (x = y)) w := by
  have u3 := Tryz.underlying3
  have a3 := Tryz.isAgg3
  have z3 := Tryz.sizeOf3
  have u2 := Tryz.underlying2
  have a2 := Tryz.isAgg2
  have z2 := Tryz.sizeOf2
  have hS : Tryz.prog.underlying 34 = some (.struct (Tryz.prog.fieldsOf 34)) := by kernel_rfl
  rw [show (9999 : Nat) = 9998 + 1 from rfl, run_equalIn_agg w 9998 34 _ _ hS Tryz.stoodInHeld34]
  simp only [Program.fieldsOf, Tryz.underlying34]
  go_simp
  obtain ⟨a, b, c, d, e⟩ := x
  obtain ⟨a', b', c', d', e'⟩ := y
  simp only [Opn.mk.injEq]
  by_cases h1 : a = a' <;> by_cases h2 : b = b' <;> by_cases h3 : c = c' <;> by_cases h4 : d = d' <;> by_cases h5 : e = e' <;> simp [h1, h2, h3, h4, h5]
theorem eq_pask (w : World) (x y : Stp) : (Op.equalIn 10000 181 (spv x) (spv y)).run Tryz.prog w = .ok (decide (x = y)) w := by
  have u3 := Tryz.underlying3
  have a3 := Tryz.isAgg3
  have z3 := Tryz.sizeOf3
  have aO := Tryz.isAgg34
  have zO := Tryz.sizeOf34
  have EO := eq_op9
  have hS : Tryz.prog.underlying 181 = some (.struct (Tryz.prog.fieldsOf 181)) := by kernel_rfl
  unfold spv
  rw [show (10000 : Nat) = 9999 + 1 from rfl, run_equalIn_agg w 9999 181 _ _ hS Tryz.stoodInHeld181]
  simp only [Program.fieldsOf, Tryz.underlying181]
  go_simp
  obtain ⟨n, o⟩ := x
  obtain ⟨n', o'⟩ := y
  simp only [Stp.mk.injEq]
  by_cases h1 : n = n' <;> by_cases h2 : o = o' <;> simp [h1, h2]
theorem eq_arr8 (w : World) (a b c x y z : Int) : (Op.equalIn 9998 53 (.agg #[.int .i64 a, .int .i64 b, .int .i64 c]) (.agg #[.int .i64 x, .int .i64 y, .int .i64 z])).run Tryz.prog w = .ok (a == x && (b == y && c == z)) w := by
  have u3 := Tryz.underlying3
  have a3 := Tryz.isAgg3
  have z3 := Tryz.sizeOf3
  rw [show (9998 : Nat) = 9997 + 1 from rfl, Op.equalIn]
  simp only [Sem.run_bind, run_underlying Tryz.underlying53, Result.andThen_ok]
  simp only [Std.Legacy.Range.forIn_eq_forIn_range', Std.Legacy.Range.size, Nat.sub_zero, Nat.add_sub_cancel, Nat.div_one, List.range'_succ, List.range'_zero, List.forIn_cons, List.forIn_nil]
  go_simp
  by_cases h1 : a = x <;> by_cases h2 : b = y <;> by_cases h3 : c = z <;> simp [h1, h2, h3]
theorem eq_wan9 (w : World) (x y : Wan) : (Op.equalIn 9999 55 (.agg #[.int .i64 x.book, .int .i64 x.cust, .int .i64 x.dead, .int .i64 x.u0, .int .i64 x.u1, .int .i64 x.u2, .int .i64 x.price]) (.agg #[.int .i64 y.book, .int .i64 y.cust, .int .i64 y.dead, .int .i64 y.u0, .int .i64 y.u1, .int .i64 y.u2, .int .i64 y.price])).run Tryz.prog w = .ok (decide (x = y)) w := by
  have q22 := eq_arr8
  have u3 := Tryz.underlying3
  have a3 := Tryz.isAgg3
  have z3 := Tryz.sizeOf3
  have u2 := Tryz.underlying2
  have a2 := Tryz.isAgg2
  have z2 := Tryz.sizeOf2
  have a22 := Tryz.isAgg53
  have z22 := Tryz.sizeOf53
  have hS : Tryz.prog.underlying 55 = some (.struct (Tryz.prog.fieldsOf 55)) := by kernel_rfl
  rw [show (9999 : Nat) = 9998 + 1 from rfl, run_equalIn_agg w 9998 55 _ _ hS Tryz.stoodInHeld55]
  simp only [Program.fieldsOf, Tryz.underlying55]
  go_simp
  obtain ⟨a, b, c, d, e, f, g⟩ := x
  obtain ⟨a', b', c', d', e', f', g'⟩ := y
  simp only [Wan.mk.injEq]
  by_cases h1 : a = a' <;> by_cases h2 : b = b' <;> by_cases h3 : c = c' <;> by_cases h4 : d = d' <;> by_cases h5 : e = e' <;> by_cases h6 : f = f' <;> by_cases h7 : g = g' <;> simp [h1, h2, h3, h4, h5, h6, h7]
theorem eq_sag (w : World) (s t : Sag) : (Op.equalIn 10000 57 (sgv s) (sgv t)).run Tryz.prog w = .ok (decide (s = t)) w := by
  have u3 := Tryz.underlying3
  have a3 := Tryz.isAgg3
  have z3 := Tryz.sizeOf3
  have aW := Tryz.isAgg55
  have zW := Tryz.sizeOf55
  have EW := eq_wan9
  have hS : Tryz.prog.underlying 57 = some (.struct (Tryz.prog.fieldsOf 57)) := by kernel_rfl
  unfold sgv sgc
  rw [show (10000 : Nat) = 9999 + 1 from rfl, run_equalIn_agg w 9999 57 _ _ hS Tryz.stoodInHeld57]
  simp only [Program.fieldsOf, Tryz.underlying57]
  go_simp
  obtain ⟨x, a, b, c, d⟩ := s
  obtain ⟨x', a', b', c', d'⟩ := t
  simp only [Sag.mk.injEq]
  by_cases h0 : x = x' <;> by_cases h1 : a = a' <;> by_cases h2 : b = b' <;> by_cases h3 : c = c' <;> by_cases h4 : d = d' <;> simp [h0, h1, h2, h3, h4]
end Sg
end Go.Proofs.YtpkdigegkemogaaGreatDoor
namespace Go.Proofs.YtpkdigegkemogaaGreatDoor
open Go.RowKit
namespace Sg
open Wt (Wan may Opn mayOp mayU inR)
open Pl (Stp fwd bck cap z0 one)

theorem fwd_pos {x : Wan} (h : may x = true) : 0 < (fwd x).length := by rw [Pl.fwd_yes h]; simp; omega
theorem bck_pos {x : Wan} (h : may x = true) : 0 < (bck x).length := by rw [Pl.bck_yes h]; simp
end Sg
end Go.Proofs.YtpkdigegkemogaaGreatDoor
