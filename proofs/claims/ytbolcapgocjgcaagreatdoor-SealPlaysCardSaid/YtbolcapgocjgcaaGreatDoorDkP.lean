/- Small words for the rows: bytes kept, slices cut, strings of bytes. -/
import Derived.Test.YtbolcapgocjgcaaGreatDoorDkO
import Derived.Lib.QuietBelow
import Derived.Deep.RegionHeld3
namespace Go.Proofs.YtbolcapgocjgcaaGreatDoor
set_option maxRecDepth 100000
open Go.RowKit
open Go.Sort (grow)
open Go.Proofs.YtbolcapgocjgcaaGreatDoor.Pk
namespace Dk

theorem rb_below {w w' : World} {A : Option Addr} {n : Nat} {bs : List UInt8} (h : Rb w (fun g => g < w.heap.size) A n bs) (hb : Below w.heap.size w w') : Rb w' (fun g => g < w'.heap.size) A n bs :=
  h.keep (fun _ hg => hb.block _ hg) (fun _ hg => Nat.lt_of_lt_of_le hg hb.size)
theorem rb_own {w : World} {base n : Nat} {A : Option Addr} {c : Nat} {bs : List UInt8} (h : w.ownsRow base 5 1 (.slice A n c) n (u8s bs)) : Rb w (fun g => g < w.heap.size) A n bs := (Rb.of_own h).keep (fun _ _ => rfl) (fun _ hg => hg.2.lt)
theorem str_regrown {w : World} {A : Option Addr} {n c : Nat} {bs : List UInt8} (h : Rb w (fun g => g < w.heap.size) A n bs) (d : Nat) (os : Array Obj) : (convert 39 9 (.slice A n c)).run Tryz.prog (grow (redrawn w d) os) = .ok (.string (str bs)) (grow (redrawn w d) os) :=
  str_run (rb_below h (below_regrown w d os))
theorem slice_run (A : Option Addr) (n c k : Nat) (hA : A = none → c = 0) (hk : k ≤ c) (W : World) : (Instr.slice 39 (.slice A n c) none (some (.int .i64 (k : Int))) none).run Tryz.prog W = .ok (.slice A k c) W := by
  rw [run_slice_h W 39 A n c (by kernel_rfl) .i64 (k : Int) (by omega) (by omega)]
  have e : (sizeOf (Tryz.prog.elem 39)).run Tryz.prog W = .ok 1 W := by kernel_rfl
  rw [e]
  simp only [Result.andThen, sliced]
  cases A with
  | none =>
    have := hA rfl
    simp
  | some a => by_cases hc : c = 0 <;> simp [hc, Addr.add]
/-- Live, while bytes of old blocks are kept. -/
theorem Live.rb {B w : World} {p room : Nat} {L : St} {X : Nat → Prop} {A : Option Addr} {n : Nat} {bs : Bs} (V : Live B w p room L X) (h : Rb B (fun g => g < B.heap.size) A n bs) : Rb w (fun g => g < w.heap.size) A n bs :=
  h.keep (fun g hg => V.be.block g hg) (fun _ hg => Nat.lt_of_lt_of_le hg V.be.size)

set_option maxHeartbeats 400000 in
theorem cut_absent {B w : World} {p room : Nat} {L : St} {X : Nat → Prop} (V : Live B w p room L X) (s : ByteArray) (k : Int) (hs : s.size ≤ maxLen) (h : look (nm s) L = none) :
    Calls Tryz.prog 26 #[.pointer (some ⟨p, 0, none⟩), .string s, .int .i64 k] w fun e w' => e = .returned (.int .i64 5) ∧ Below w.heap.size w w' := by
  obtain ⟨fp, ⟨mo, l, D, rfl⟩, hf⟩ := V.dk
  have F := find_any w p room mo l fp s D hs
  have h' : look (nm s) l = none := by
    rw [look_abs] at h
    cases e : look (nm s) l with
    | none => rfl
    | some f => rw [e] at h; cases h
  rw [h'] at F
  replace F := Lib.hid F
  clear h h' D V
  go_enter Tryz.func26, Tryz.ntmps26
  go_wp2_with fail
  refine F.out.mono ?_
  rintro e w1 ⟨rfl, hb⟩
  have B : Hid (Below w.heap.size w (w1.alloc (.cells #[.slice none 0 0, .int .i64 0] 88))) := hb.alloc hb.size _
  clear hb F
  unfold nofile
  simp only [Option.elim, Option.isSome]
  go_wp2
  go_ret
  exact ⟨rfl, B.out⟩

theorem str_size (l : List UInt8) : (str l).size = l.length := by simp [str, ByteArray.size]
theorem str_cat (a b : List UInt8) : str a ++ str b = str (a ++ b) := by unfold str; rw [ByteArray.mk_append_mk]
theorem str_add (a b : List UInt8) (h : a.length + b.length ≤ 9223372036854775807) (w : World) : (Op.stringOp .add (str a) (str b)).run Tryz.prog w = .ok (.string (str (a ++ b))) w := by
  rw [run_string_add_sum w _ _ (by rw [str_size, str_size]; exact h), str_cat]
theorem used_below {B w : World} {p room : Nat} {L : St} {X : Nat → Prop} (V : Live B w p room L X) : Calls Tryz.prog 60 #[.pointer (some ⟨p, 0, none⟩)] w fun e w' => e = .returned (.int .i64 (used L : Nat)) ∧ Below w.heap.size w w' :=
  (l_used V).mono fun e w' h => ⟨h.1, by rw [← h.2]; exact Below.refl _ _⟩
/-! ### what a file holds behind a crash -/
theorem cr_app (keep : Int) (a c : Bs) : cr keep (a ++ c, a.length) = (a ++ c.take (max 0 (min keep c.length)).toNat, a.length + (max 0 (min keep c.length)).toNat) := by
  have e : min (max keep 0).toNat ((a ++ c).length - a.length) = (max 0 (min keep c.length)).toNat := by
    rw [List.length_append]
    omega
  unfold cr
  simp only
  rw [e, List.take_length_add_append]
theorem len_cr (keep : Int) (a c : Bs) : (a ++ c.take (max 0 (min keep c.length)).toNat).length = a.length + (max 0 (min keep c.length)).toNat := by
  rw [List.length_append, List.length_take]
  omega
theorem app_ok {room : Nat} {L : St} {n b : Bs} (h1 : good n = true) (h2 : used L + b.length ≤ room) : sApp room L n b = (0, put n ((look n L).elim [] (·.1) ++ b, (look n L).elim 0 (·.2)) L) := by
  unfold sApp
  rw [h1, if_neg (by simp), if_neg (by omega)]
theorem app_full {room : Nat} {L : St} {n b : Bs} (h1 : good n = true) (h2 : room - used L < b.length) : sApp room L n b = (4, L) := by
  unfold sApp
  rw [h1, if_neg (by simp), if_pos h2]
end Dk
end Go.Proofs.YtbolcapgocjgcaaGreatDoor
