/- The document's own Read. -/
import Derived.Test.YthadgeihkeggfaaDoorFrU
import Derived.Test.YthadgeihkeggfaaDoorFrN
namespace Go.Proofs.YthadgeihkeggfaaDoor
open Go.RowKit
open Go.Sort
open Go.Proofs.YthadgeihkeggfaaDoor.Pk
namespace Fr

def RrAt (w : World) (bs : List UInt8) (v a : Value) (wr : World) : Prop :=
  ∃ l q, a = .int .i64 (q : Nat) ∧ Goes bs 0 l q ∧ q ≤ bs.length ∧ wr.ownsRow w.heap.size 9 1 v l.length (strs l) ∧ RowKit.Below w.heap.size w wr
set_option maxHeartbeats 1600000 in
set_option maxRecDepth 100000 in
theorem rread_any (w : World) (bs : List UInt8) (hn : bs.length ≤ 1000000) :
    Calls Tryd.prog 12 #[.string (str bs)] w fun e w' => ∃ v l q, e = .returned (.tuple #[v, .int .i64 (q : Nat)]) ∧ Got bs l q ∧ w'.ownsRow w.heap.size 9 1 v l.length (strs l) ∧ RowKit.Below w.heap.size w w' := by
  have st : Hid (RrAt w bs (.slice none 0 0) (.int .i64 0) w) := ⟨[], 0, rfl, rfl, Nat.zero_le _, World.ownsRow_nil _ _ _ _, RowKit.Below.refl _ _⟩
  have O : Hid (∀ w' (q : Nat), q ≤ bs.length → Calls Tryd.prog 14 #[.string (str bs), .int .i64 q] w' fun e w'' => RowKit.Below w'.heap.size w' w'' ∧ ((oneAt bs q = none ∧ e = .returned (.tuple #[.string (str []), .int .i64 (-1)])) ∨ (∃ r, oneAt bs q = some r ∧ e = .returned (.tuple #[.string (str r), .int .i64 ((q : Int) + 6 + (r.length : Int))])))) := fun w' q hq => rone_any w' bs q (by omega) hn
  obtain ⟨S, hS⟩ : ∃ S, S = str bs := ⟨_, rfl⟩
  rw [← hS] at O ⊢
  clear hS
  obtain ⟨N, hN⟩ : ∃ N, N = bs.length := ⟨_, rfl⟩
  rw [← hN] at hn
  replace hN := Lib.hid hN
  go_enter Tryd.func12, Tryd.ntmps12
  go_wp2_with fail
  go_loopw [4, 5] (fun v a wr => RrAt w bs v a wr) (fun _ a _ => N + 1 - (intOf a).toNat)
  case atStart => exact st.out
  case round =>
    obtain ⟨l, q, rfl, hgo, hq, ho, hb⟩ := hrel
    rw [← hN.out] at hq
    replace hgo := Lib.hid hgo
    replace ho := Lib.hid ho
    replace hb := Lib.hid hb
    have C := Lib.hid (O.out wr q (by rw [← hN.out]; exact hq))
    have ea := oneAt_nat (bs := bs) (p := q) (by rw [← hN.out]; exact hq)
    replace ea := Lib.hid ea
    go_wp2_with fail
    refine C.out.mono ?_
    rintro e w1 ⟨b1, ⟨h1, rfl⟩ | ⟨r, h1, rfl⟩⟩
    · have F : Hid (Got bs l q) := ⟨hgo.out, ea.out.symm.trans h1⟩
      have O1 := Lib.hid (Fr.own_below ho.out b1)
      have be1 : Hid (RowKit.Below w.heap.size w w1) := hb.out.trans (b1.mono hb.out.size)
      clear b1 h1 ho hb C
      go_wp2
      go_ret2
      exact ⟨_, l, q, rfl, F.out, O1.out, be1.out⟩
    · have h2 : one (bs.drop q) = some r := ea.out.symm.trans h1
      have hl := one_len h2
      rw [List.length_drop, ← hN.out] at hl
      have hgl := goes_le hgo.out
      have G : Hid (Goes bs 0 (l ++ [r]) (q + (6 + r.length))) := goes_snoc hgo.out h2
      obtain ⟨j, hj⟩ : ∃ j, j = l.length := ⟨_, rfl⟩
      have hj2 : j ≤ 1000000 := by omega
      obtain ⟨xs, hxs⟩ : ∃ xs, xs = strs l := ⟨_, rfl⟩
      rw [← hj, ← hxs] at ho
      have O1 := Lib.hid (Fr.own_below ho.out b1)
      have be1 : Hid (RowKit.Below w.heap.size w w1) := hb.out.trans (b1.mono hb.out.size)
      have z1 : w.heap.size ≤ w1.heap.size := be1.out.size
      obtain ⟨m, hm⟩ : ∃ m, m = r.length := ⟨_, rfl⟩
      rw [← hm] at hl G ⊢
      obtain ⟨hl1, hl2, hl3⟩ := hl
      have hp : q + (6 + m) ≤ N := by omega
      replace hm := Lib.hid hm
      replace hj := Lib.hid hj
      replace hxs := Lib.hid hxs
      obtain ⟨i0, hi, hz0, hz1, hz2⟩ := info_parts s_info
      replace hi := Lib.hid hi
      replace hz0 := Lib.hid hz0
      replace hz1 := Lib.hid hz1
      replace hz2 := Lib.hid hz2
      have hmx : m + 6 ≤ N - q := by omega
      have hnot : ¬ (q : Int) + 6 + (m : Int) < 0 := by omega
      clear b1 h1 h2 ho hb C hgl hl1
      go_wp2_with (at_builtin; go_loud (refine wpList_append_1 w1 rfl (.tmp 18) (.tmp 20) 30 rfl w.heap.size 9 i0 (.string ByteArray.empty) 16 Tryd.underlying30 hi.out hz0.out hz1.out hz2.out rfl _ j xs (.string (str r)) rfl O1.out rfl rfl (by unfold maxLen; omega) (by omega) z1 ?_); intro v6 w6 h6 g6; have nx : Hid (RrAt w bs v6 (.int .i64 ((q : Int) + 6 + m)) w6) := ⟨l ++ [r], q + (6 + m), by congr 1; omega, G.out, by rw [← hN.out]; exact hp, by rw [strs_app, List.length_append, ← hj.out, ← hxs.out]; exact h6, (be1.out.alloc z1 _).grown g6 (by simp; omega) (fun g hg => (O1.out.lt g hg).1)⟩; clear h6 g6)
      exact ⟨nx.out, by simp [intOf]; omega⟩
end Fr
end Go.Proofs.YthadgeihkeggfaaDoor
