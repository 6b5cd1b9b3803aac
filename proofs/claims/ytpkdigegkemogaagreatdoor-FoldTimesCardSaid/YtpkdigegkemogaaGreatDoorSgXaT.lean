/- Parts of the claim: SgM, SgA, SgN -/
import Derived.Deep.RegionWith
import Derived.Laws.ResultCell
import Derived.Deep.CutRange
import Derived.Deep.CutBlock
import Derived.Test.YtpkdigegkemogaaGreatDoorPlXaT
import Derived.Test.YtpkdigegkemogaaGreatDoorPlXcT
namespace Go.Proofs.YtpkdigegkemogaaGreatDoor
open Go.RowKit
namespace Sg
open Wt (Wan may Opn mayOp mayU inR)
open Pl (Stp fwd bck cap z0)

structure Sag where
  w : Wan
  ph : Int
  st : Int
  rs : Int
  si : Int
deriving DecidableEq
def sz : Sag := ⟨⟨0, 0, 0, 0, 0, 0, 0⟩, 0, 0, 0, 0⟩
def why (s : Sag) : Bool := decide (1 ≤ s.rs) && decide (s.rs ≤ 4) && (!(s.rs == 3) || decide (0 < s.w.dead))
def nF (s : Sag) : Int := ((fwd s.w).length : Int)
def nB (s : Sag) : Int := ((bck s.w).length : Int)
def phs (s : Sag) : Bool :=
  if s.ph = 1 then decide (0 ≤ s.st) && decide (s.st < nF s) && s.rs == 0
  else if s.ph = 2 ∨ s.ph = 4 then s.st == 0 && s.rs == 0
  else if s.ph = 3 then decide (0 ≤ s.st) && decide (s.st < nB s) && why s
  else if s.ph = 5 then s.st == 0 && why s
  else false
def smay (s : Sag) : Bool := may s.w && inR s.si 0 1099511627776 && phs s
def atF (s : Sag) : Stp := ((fwd s.w)[s.st.toNat]?).getD z0
def atB (s : Sag) : Stp := ((bck s.w)[s.st.toNat]?).getD z0
def snext (s : Sag) : Stp × Bool :=
  if smay s = true then
    if s.ph = 1 then (atF s, true)
    else if s.ph = 2 then (cap s.w, true)
    else if s.ph = 3 then (atB s, true)
    else (z0, false)
  else (z0, false)
def sback (s : Sag) (r : Int) : Sag := { s with ph := 3, st := 0, rs := r }
def sdone (s : Sag) : Sag :=
  if s.ph = 1 then (if s.st + 1 = nF s then { s with ph := 2, st := 0 } else { s with st := s.st + 1 })
  else if s.ph = 2 then { s with ph := 4, st := 0 }
  else (if s.st + 1 = nB s then { s with ph := 5, st := 0 } else { s with st := s.st + 1 })
def sans (s : Sag) (a : Stp) (n : Int) : Sag × Bool :=
  if (snext s).2 = true ∧ (snext s).1 = a ∧ (n = 1 ∨ n = 2) then
    if n = 2 then
      if s.ph = 1 then (if a.op.kind = 4 then (sback s 2, true) else (sback s 1, true)) else (s, false)
    else (sdone s, true)
  else (s, false)
def scan (s : Sag) : Sag × Bool := if smay s = true ∧ s.ph = 1 then (sback s 4, true) else (s, false)
def slate (s : Sag) (now : Int) : Sag × Bool :=
  if smay s = true ∧ s.ph = 1 ∧ 0 < s.w.dead ∧ now ≤ 1099511627776 ∧ s.si + s.w.dead ≤ now then (sback s 3, true) else (s, false)
def sover (s : Sag) : Bool := smay s && (s.ph == 4 || s.ph == 5)
def snew (w : Wan) (now : Int) : Sag × Int := if may w = true ∧ inR now 0 1099511627776 = true then (⟨w, 1, 0, 0, now⟩, 0) else (sz, 1)
end Sg
end Go.Proofs.YtpkdigegkemogaaGreatDoor
namespace Go.Proofs.YtpkdigegkemogaaGreatDoor
set_option maxRecDepth 100000
open Go.RowKit
open Go.Proofs.YtpkdigegkemogaaGreatDoor.Pk (one_at one_free one_set lt_some grown_set grown_trans grown_refl)
namespace Sg
open Wt (Wan may Opn mayOp may_any refmay_any below_drewN)
open Pl (Stp fwd bck cap z0 wanv spv RowT rt_form rt_mono rfwd_any rbck_any fwd_any bck_any cap_any)

abbrev sgc (s : Sag) : Array Value := #[.int .i64 s.w.book, .int .i64 s.w.cust, .int .i64 s.w.dead, .int .i64 s.w.u0, .int .i64 s.w.u1, .int .i64 s.w.u2, .int .i64 s.w.price, .int .i64 s.ph, .int .i64 s.st, .int .i64 s.rs, .int .i64 s.si]
abbrev sgv (s : Sag) : Value := .agg (sgc s)
def BoxS (w : World) (g : Nat) (s : Sag) : Prop := w.heap[g]? = some (.cells (sgc s) 57 (0, 0))
structure CellS (w : World) (g : Nat) (s : Sag) : Prop where
  c0 : w.cell? ⟨g, 0, none⟩ = some (.int .i64 s.w.book)
  c1 : w.cell? ⟨g, 1, none⟩ = some (.int .i64 s.w.cust)
  c2 : w.cell? ⟨g, 2, none⟩ = some (.int .i64 s.w.dead)
  c3 : w.cell? ⟨g, 3, none⟩ = some (.int .i64 s.w.u0)
  c4 : w.cell? ⟨g, 4, none⟩ = some (.int .i64 s.w.u1)
  c5 : w.cell? ⟨g, 5, none⟩ = some (.int .i64 s.w.u2)
  c6 : w.cell? ⟨g, 6, none⟩ = some (.int .i64 s.w.price)
  c7 : w.cell? ⟨g, 7, none⟩ = some (.int .i64 s.ph)
  c8 : w.cell? ⟨g, 8, none⟩ = some (.int .i64 s.st)
  c9 : w.cell? ⟨g, 9, none⟩ = some (.int .i64 s.rs)
  ca : w.cell? ⟨g, 10, none⟩ = some (.int .i64 s.si)
section
variable {w w' : World} {g B : Nat} {s : Sag}
theorem BoxS.lt (h : BoxS w g s) : g < w.heap.size := lt_some h
theorem BoxS.below (h : BoxS w g s) (hb : Below B w w') (hg : g < B) : BoxS w' g s := (hb.block g hg).trans h
theorem BoxS.cells (h : BoxS w g s) : CellS w g s := ⟨one_at h, one_at h, one_at h, one_at h, one_at h, one_at h, one_at h, one_at h, one_at h, one_at h, one_at h⟩
end
theorem sag_size : (Tryz.prog.info? 57).map (·.size) = some 11 := by kernel_rfl
theorem one11 (s : Sag) : (sgc s).all (·.oneCell') = true := by simp [sgc, Value.oneCell']
theorem rf_len (w : World) (x : Wan) : Calls Tryz.prog 76 #[wanv x] w fun e w' => ∃ A c, e = .returned (.slice A (fwd x).length c) ∧ RowT 125 w' w.heap.size (.slice A (fwd x).length c) (fwd x).length (fwd x) ∧ Below w.heap.size w w' := (rfwd_any w x).mono fun e w' ⟨v, h1, h2, h3⟩ => by
  obtain ⟨A, c, rfl, -⟩ := rt_form h2
  exact ⟨A, c, h1, h2, h3⟩
theorem rb_len (w : World) (x : Wan) : Calls Tryz.prog 77 #[wanv x] w fun e w' => ∃ A c, e = .returned (.slice A (bck x).length c) ∧ RowT 125 w' w.heap.size (.slice A (bck x).length c) (bck x).length (bck x) ∧ Below w.heap.size w w' := (rbck_any w x).mono fun e w' ⟨v, h1, h2, h3⟩ => by
  obtain ⟨A, c, rfl, -⟩ := rt_form h2
  exact ⟨A, c, h1, h2, h3⟩
theorem res_row {P : Program} {fn : Func} {p u : Tmp} {ty : TypeId} (h : fn.results = #[.cell p ty, .tmp u]) (tmps : Array Value) (w : World) (g : Nat) (t : TypeId) (cs : Array Value) (fr : Nat × Nat) (d : TypeDesc) (hp : tmps.getD p undef = .pointer (some ⟨g, 0, none⟩)) (hg : w.heap[g]? = some (.cells cs t fr))
    (hu : P.underlying ty = some d) (hd : (match d with | .struct _ | .array _ _ => true | _ => false) = true) (hi : (P.info? ty).map (·.size) = some cs.size) :
    (results fn tmps).run P w = .ok (.tuple #[.agg cs, tmps.getD u undef]) w := by
  rw [results_cell_tmp h, hp]
  simp [asAddr, run_loadVar_row w g t ty cs fr d hg hu hd hi]
theorem step_store_row {P : Program} {ops : Array Oper} {o : Oper} {a : Act} {w : World} {K : Act → World → Prop} {Q : Exit → Act → World → Prop} {E : Prop} (hgd : o.guard = none) (ty : TypeId) (x y : Operand) (ho : o.op = .store ty x y)
    (g : Nat) (cells : Array Value) (hx : a.eval x = .pointer (some ⟨g, 0, none⟩)) (hy : a.eval y = .agg cells)
    (t : TypeId) (old : Array Value) (hg : w.heap[g]? = some (.cells old t (0, 0))) (hi : (P.info? ty).map (·.size) = some cells.size)
    (hold : old.size = cells.size) (h1 : cells.all (·.oneCell') = true)
    (h : K (a.put o.dst undef) (w.setRow g cells)) : if Region.wanted o (yielded ops a.tmps) = true then Oper.wp P o a w K Q else E := by
  have hw : Region.wanted o (yielded ops a.tmps) = true := by simp [Region.wanted, hgd]
  rw [if_pos hw]
  exact wp_store_row ty x y ho g cells hx hy t old hg hi hold h1 h
end Sg
end Go.Proofs.YtpkdigegkemogaaGreatDoor
namespace Go.Proofs.YtpkdigegkemogaaGreatDoor
open Go.RowKit
namespace Sg
open Wt (Wan may Opn mayOp mayU inR)
open Pl (Stp fwd bck cap z0 one)

theorem fwd_pos {x : Wan} (h : may x = true) : 0 < (fwd x).length := by rw [Pl.fwd_yes h]; simp; omega
theorem bck_pos {x : Wan} (h : may x = true) : 0 < (bck x).length := by rw [Pl.bck_yes h]; simp
end Sg
end Go.Proofs.YtpkdigegkemogaaGreatDoor
