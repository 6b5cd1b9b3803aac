/- Parts of the claim: WtD, WtE, WtG, WtL -/
import Derived.WalkSpells
import Derived.WalkLawsBesides
import Derived.Lib.Hide
import Derived.Deep.QuietTactic
import Derived.BigQuiet
import Derived.Laws.BitsAllLaws
import Derived.Laws.DeepNot64
import Derived.Laws.ResultCell
import Derived.Test.YtpkdigegkemogaaGreatDoorWtXaT
import Derived.Test.YtpkdigegkemogaaGreatDoorPkXT
namespace Go.Proofs.YtpkdigegkemogaaGreatDoor
open Go.RowKit Go.Proofs.YtpkdigegkemogaaGreatDoor.Pk
namespace Wt

def I (v : Int) : Prop := -9223372036854775808 ≤ v ∧ v ≤ 9223372036854775807
def cat (zs : List Int) : List UInt8 := zs.flatMap encI
theorem cat_cons (z : Int) (zs : List Int) : cat (z :: zs) = encI z ++ cat zs := by simp [cat]
theorem cat_app (a b : List Int) : cat (a ++ b) = cat a ++ cat b := by simp [cat]
theorem cat_len (zs : List Int) (h : ∀ z ∈ zs, I z) : (cat zs).length ≤ 10 * zs.length := by
  induction zs with
  | nil => simp [cat]
  | cons z zs ih =>
    rw [cat_cons, List.length_append]
    have h1 := h z (by simp)
    have := encI_len z h1.1 h1.2
    have := ih (fun y hy => h y (by simp [hy]))
    simp only [List.length_cons]
    omega
theorem cat_snoc {zs : List Int} {k : Nat} {z : Int} (h : zs[k]? = some z) : cat (zs.take (k + 1)) = cat (zs.take k) ++ encI z := by
  obtain ⟨hl, rfl⟩ := List.getElem?_eq_some_iff.1 h
  rw [List.take_succ_eq_append_getElem hl, cat_app]
  simp [cat]

structure Ns (w : World) (ad : Addr) (zs : List Int) : Prop where
  blk : ∃ (cs : Array Value) (t : TypeId), w.heap[ad.block]? = some (Obj.cells cs t (0, 0)) ∧ t ≠ 277 ∧ t ≠ 70 ∧ t ≠ 5
  at_ : ∀ (j : Nat) (z : Int), zs[j]? = some z → w.cell? (ad.add j) = some (.int .i64 z)
theorem Ns.oth {w w' : World} {ad : Addr} {zs : List Int} (h : Ns w ad zs) (k : Oth w w') : Ns w' ad zs := by
  obtain ⟨⟨cs, t, hb, h1, h2, h3⟩, hc⟩ := h
  have e := k _ cs t hb h1 h2 h3
  exact ⟨⟨cs, t, e.trans hb, h1, h2, h3⟩, fun j z hj => (World.cell?_of_block (by rw [adr_block]; exact e)).trans (hc j z hj)⟩

def PtAt (w : World) (p : Nat) (bs : List UInt8) (zs : List Int) (i : Value) (wr : World) : Prop := ∃ k : Nat, i = .int .i64 k ∧ k ≤ zs.length ∧ WrTo w p (bs ++ cat (zs.take k)) wr
set_option maxHeartbeats 800000 in
theorem puti (p : Nat) (w : World) (bs : List UInt8) (h : Wr w p bs) (ad : Addr) (n : Nat) (zs : List Int) (hl : zs.length = n) (hs : Ns w ad zs) (hz : ∀ z ∈ zs, I z) (hn : bs.length ≤ 1000) (hm : n ≤ 100) :
    Calls Tryz.prog 211 #[.pointer (some ⟨p, 0, none⟩), .slice (some ad) n n] w fun e w' => e = .returned (.tuple #[]) ∧ WrTo w p (bs ++ cat zs) w' := by
  have st : Hid (PtAt w p bs zs (.int .i64 0) w) := ⟨0, rfl, Nat.zero_le _, by simpa [cat] using h, Below.refl _ _, Oth.refl _⟩
  have L := Lib.hid (cat_len zs hz)
  have hl' := Lib.hid hl
  have hs' := Lib.hid hs
  have hz' := Lib.hid hz
  clear h hl hs hz
  go_enter Tryz.func211, Tryz.ntmps211
  go_wp2
  go_loopw [8] (fun i wr => PtAt w p bs zs i wr) (fun i _ => n - (intOf i).toNat)
  case atStart => exact st.out
  case round =>
    obtain ⟨k, rfl, hk, hw⟩ := hrel
    replace hw := Lib.hid hw
    replace hk := Lib.hid hk
    by_cases hlt : k < n
    · obtain ⟨z, hzk⟩ : ∃ z, zs[k]? = some z := ⟨_, List.getElem?_eq_getElem (by have := hl'.out; omega)⟩
      have q := (hs'.out.oth hw.out.ot).at_ k z hzk
      have hI := hz'.out z (List.mem_of_getElem? hzk)
      have C : Hid (Calls Tryz.prog 214 #[.pointer (some ⟨p, 0, none⟩), .int .i64 z] wr fun e w' => e = .returned (.tuple #[]) ∧ WrTo w p (bs ++ cat (zs.take (k + 1))) w') := by
        refine (wint_any p wr _ hw.out.wr z hI.1 hI.2 ?_).mono ?_
        · rw [List.length_append]
          have h1 := cat_len (zs.take k) (fun y hy => hz'.out y (List.mem_of_mem_take hy))
          have h2 : (zs.take k).length ≤ 100 := by rw [List.length_take]; have := hl'.out; omega
          omega
        · rintro e w' ⟨rfl, h5⟩
          rw [cat_snoc hzk, ← List.append_assoc]
          exact ⟨rfl, hw.out.trans h5⟩
      have hk1 : k + 1 ≤ zs.length := by have := hl'.out; omega
      replace hk1 := Lib.hid hk1
      clear hzk hI
      go_wp2_with (go_at_call 214; ((with_reducible refine C.out.mono ?_); rintro e w' ⟨rfl, hw2⟩))
      go_roundw
      case rel => exact ⟨k + 1, by simp, hk1.out, hw2⟩
      case measure => simp [intOf]; omega
    · have F : Hid (WrTo w p (bs ++ cat zs) wr) := by
        have h1 := hw.out
        have h2 : zs.take k = zs := List.take_of_length_le (by have := hl'.out; omega)
        rw [h2] at h1
        exact h1
      have hkn : k = n := by have := hk.out; have := hl'.out; omega
      go_wp2_with fail
      go_end0
      exact ⟨rfl, F.out⟩
set_option maxHeartbeats 800000 in
theorem puti64 (p : Nat) (w : World) (bs : List UInt8) (h : Wr w p bs) (ad : Addr) (n : Nat) (zs : List Int) (hl : zs.length = n) (hs : Ns w ad zs) (hz : ∀ z ∈ zs, I z) (hn : bs.length ≤ 1000) (hm : n ≤ 100) :
    Calls Tryz.prog 212 #[.pointer (some ⟨p, 0, none⟩), .slice (some ad) n n] w fun e w' => e = .returned (.tuple #[]) ∧ WrTo w p (bs ++ cat zs) w' := by
  have st : Hid (PtAt w p bs zs (.int .i64 0) w) := ⟨0, rfl, Nat.zero_le _, by simpa [cat] using h, Below.refl _ _, Oth.refl _⟩
  have L := Lib.hid (cat_len zs hz)
  have hl' := Lib.hid hl
  have hs' := Lib.hid hs
  have hz' := Lib.hid hz
  clear h hl hs hz
  go_enter Tryz.func212, Tryz.ntmps212
  go_wp2
  go_loopw [8] (fun i wr => PtAt w p bs zs i wr) (fun i _ => n - (intOf i).toNat)
  case atStart => exact st.out
  case round =>
    obtain ⟨k, rfl, hk, hw⟩ := hrel
    replace hw := Lib.hid hw
    replace hk := Lib.hid hk
    by_cases hlt : k < n
    · obtain ⟨z, hzk⟩ : ∃ z, zs[k]? = some z := ⟨_, List.getElem?_eq_getElem (by have := hl'.out; omega)⟩
      have q := (hs'.out.oth hw.out.ot).at_ k z hzk
      have hI := hz'.out z (List.mem_of_getElem? hzk)
      have C : Hid (Calls Tryz.prog 214 #[.pointer (some ⟨p, 0, none⟩), .int .i64 z] wr fun e w' => e = .returned (.tuple #[]) ∧ WrTo w p (bs ++ cat (zs.take (k + 1))) w') := by
        refine (wint_any p wr _ hw.out.wr z hI.1 hI.2 ?_).mono ?_
        · rw [List.length_append]
          have h1 := cat_len (zs.take k) (fun y hy => hz'.out y (List.mem_of_mem_take hy))
          have h2 : (zs.take k).length ≤ 100 := by rw [List.length_take]; have := hl'.out; omega
          omega
        · rintro e w' ⟨rfl, h5⟩
          rw [cat_snoc hzk, ← List.append_assoc]
          exact ⟨rfl, hw.out.trans h5⟩
      have hk1 : k + 1 ≤ zs.length := by have := hl'.out; omega
      replace hk1 := Lib.hid hk1
      clear hzk hI
      go_wp2_with (go_at_call 214; ((with_reducible refine C.out.mono ?_); rintro e w' ⟨rfl, hw2⟩))
      go_roundw
      case rel => exact ⟨k + 1, by simp, hk1.out, hw2⟩
      case measure => simp [intOf]; omega
    · have F : Hid (WrTo w p (bs ++ cat zs) wr) := by
        have h1 := hw.out
        have h2 : zs.take k = zs := List.take_of_length_le (by have := hl'.out; omega)
        rw [h2] at h1
        exact h1
      have hkn : k = n := by have := hk.out; have := hl'.out; omega
      go_wp2_with fail
      go_end0
      exact ⟨rfl, F.out⟩
end Wt
end Go.Proofs.YtpkdigegkemogaaGreatDoor
namespace Go.Proofs.YtpkdigegkemogaaGreatDoor
open Go.RowKit Go.Proofs.YtpkdigegkemogaaGreatDoor.Pk
namespace Wt

def wz (x : Wan) : List Int := [x.book, x.cust, x.dead, x.u0, x.u1, x.u2, x.price]
def raw (x : Wan) : List UInt8 := cat (wz x)
theorem may_I {x : Wan} (h : may x = true) : ∀ z ∈ wz x, I z := by
  unfold may inR mayU at h
  simp only [Bool.and_eq_true, decide_eq_true_iff] at h
  intro z hz
  simp only [wz, List.mem_cons, List.not_mem_nil, or_false] at hz
  unfold I
  rcases hz with rfl | rfl | rfl | rfl | rfl | rfl | rfl <;> omega
structure PutTo (w : World) (ok : Bool) (bs : List UInt8) (e : Ending) (w' : World) : Prop where
  be : Below w.heap.size w w'
  yes : ok = true → ∃ v, e = .returned (.tuple #[v, .int .i64 0]) ∧ w'.ownsRow w.heap.size 5 1 v bs.length (u8s bs)
  no : ok = false → e = .returned (.tuple #[.slice none 0 0, .int .i64 1])
theorem own_mono {w : World} {b b' n : Nat} {e : TypeId} {v : Value} {xs : List Value} (h : w.ownsRow b e 1 v n xs) (hb : b' ≤ b) : w.ownsRow b' e 1 v n xs := by
  refine ⟨h.1, ?_⟩
  rcases h.2 with hn | ⟨g, cap, cur, rfl, hg, rest⟩
  · exact .inl hn
  · exact .inr ⟨g, cap, cur, rfl, Nat.le_trans hb hg, rest⟩

theorem ns_new (w : World) (g : Nat) (cs : Array Value) (t : TypeId) (zs : List Int) (hg : g = w.heap.size) (hc : cs = (zs.map (Value.int .i64)).toArray) (t1 : t ≠ 277) (t2 : t ≠ 70) (t3 : t ≠ 5) : Ns (w.alloc (.cells cs t)) ⟨g, 0, none⟩ zs := by
  subst hg
  have hb : (w.alloc (.cells cs t)).heap[w.heap.size]? = some (.cells cs t (0, 0)) := heap_alloc_new _ _
  refine ⟨⟨cs, t, hb, t1, t2, t3⟩, fun j z hj => ?_⟩
  rw [Addr.add_lit, Nat.zero_add, one_at hb, hc]
  simp [hj]
set_option maxHeartbeats 1600000 in
theorem put_any (w : World) (x : Wan) :
    Calls Tryz.prog 209 #[.agg #[.int .i64 x.book, .int .i64 x.cust, .int .i64 x.dead, .int .i64 x.u0, .int .i64 x.u1, .int .i64 x.u2, .int .i64 x.price]] w (PutTo w (may x) (raw x)) := by
  obtain ⟨w1, e1⟩ : ∃ z, z = w.alloc (.cells #[.int .i64 x.book, .int .i64 x.cust, .int .i64 x.dead, .int .i64 x.u0, .int .i64 x.u1, .int .i64 x.u2, .int .i64 x.price] 55) := ⟨_, rfl⟩
  have be1 : Hid (Below w.heap.size w w1) := by rw [e1]; exact (Below.refl _ w).alloc (Nat.le_refl _) _
  have h1 : Hid (w1.heap[w.heap.size]? = some (.cells #[.int .i64 x.book, .int .i64 x.cust, .int .i64 x.dead, .int .i64 x.u0, .int .i64 x.u1, .int .i64 x.u2, .int .i64 x.price] 55 (0, 0))) := by rw [e1]; exact heap_alloc_new _ _
  have M := Lib.hid (may_any w1 x)
  by_cases hm : may x = true
  case neg =>
    replace hm : may x = false := by simpa using hm
    rw [hm] at M ⊢
    rw [e1] at M
    go_enter Tryz.func209, Tryz.ntmps209
    go_wp2_with fail
    refine M.out.mono ?_
    rintro e w2 ⟨rfl, b2⟩
    rw [← e1] at b2
    have be2 : Hid (Below w.heap.size w w2) := be1.out.trans (b2.mono be1.out.size)
    clear b2 be1 M h1
    go_wp2
    go_ret2
    exact ⟨be2.out, fun h => (by cases h), fun _ => rfl⟩
  case pos =>
    have hI := Lib.hid (may_I hm)
    rw [hm] at M ⊢
    clear hm
    rw [e1] at M
    go_enter Tryz.func209, Tryz.ntmps209
    go_wp2_with fail
    refine M.out.mono ?_
    rintro e w2 ⟨rfl, b2⟩
    rw [← e1] at b2
    have be2 : Hid (Below w.heap.size w w2) := be1.out.trans (b2.mono be1.out.size)
    have h2 : Hid (w2.heap[w.heap.size]? = _) := (b2.block _ (lt_some h1.out)).trans h1.out
    have hp : w.heap.size < w2.heap.size := lt_some h2.out
    have c0 : w2.cell? ⟨w.heap.size, 0, none⟩ = some (.int .i64 x.book) := one_at h2.out
    have c1 : w2.cell? ⟨w.heap.size, 1, none⟩ = some (.int .i64 x.cust) := one_at h2.out
    have c2 : w2.cell? ⟨w.heap.size, 2, none⟩ = some (.int .i64 x.dead) := one_at h2.out
    have c3 : w2.cell? ⟨w.heap.size, 3, none⟩ = some (.int .i64 x.u0) := one_at h2.out
    have c4 : w2.cell? ⟨w.heap.size, 4, none⟩ = some (.int .i64 x.u1) := one_at h2.out
    have c5 : w2.cell? ⟨w.heap.size, 5, none⟩ = some (.int .i64 x.u2) := one_at h2.out
    clear b2 be1 M h1 e1
    go_wp2_with fail
    refine (puti w2.heap.size _ [] ((Wr.new w2).alloc _) ⟨w2.heap.size + 1, 0, none⟩ 6 [x.book, x.cust, x.dead, x.u0, x.u1, x.u2] rfl (ns_new _ _ _ _ _ (by simp) rfl (by decide) (by decide) (by decide)) (fun z hz => hI.out z (by simp only [wz, List.mem_cons, List.not_mem_nil, or_false] at hz ⊢; omega)) (by simp) (by omega)).mono ?_
    rintro e w3 ⟨rfl, h3⟩
    have be3 : Hid (Below w2.heap.size w2 w3) := (((Below.refl _ w2).alloc (Nat.le_refl _) _).alloc (by simp) _).trans h3.be
    have h4 : Hid (w3.heap[w.heap.size]? = _) := (be3.out.block _ hp).trans h2.out
    have wr3 : Hid (Wr w3 w2.heap.size _) := h3.wr
    have c6 : w3.cell? ⟨w.heap.size, 6, none⟩ = some (.int .i64 x.price) := one_at h4.out
    have hp3 : Hid (w2.heap.size < w3.heap.size) := wr3.out.lt
    clear h3 c0 c1 c2 c3 c4 c5 h2
    go_wp2_with fail
    refine (puti64 w2.heap.size _ _ (wr3.out.alloc _) ⟨w3.heap.size, 0, none⟩ 1 [x.price] rfl (ns_new _ _ _ _ _ (by simp) rfl (by decide) (by decide) (by decide)) (fun z hz => hI.out z (by simp only [wz, List.mem_cons, List.not_mem_nil, or_false] at hz ⊢; omega)) ?hlen (by omega)).mono ?_
    case hlen =>
      have := cat_len [x.book, x.cust, x.dead, x.u0, x.u1, x.u2] (fun z hz => hI.out z (by simp only [wz, List.mem_cons, List.not_mem_nil, or_false] at hz ⊢; omega))
      simp at this ⊢
      omega
    rintro e w4 ⟨rfl, h5⟩
    have be4 : Hid (Below w2.heap.size w2 w4) := (be3.out.alloc (Nat.le_of_lt hp3.out) _).trans h5.be
    have wr4 : Hid (Wr w4 w2.heap.size (raw x)) := by
      have := h5.wr
      rw [List.nil_append, ← cat_app] at this
      exact this
    have hl : (raw x).length ≤ 140737488355328 := by
      have := cat_len _ hI.out
      unfold raw
      simp [wz] at this ⊢
      omega
    have B := Lib.hid (bytes_any w2.heap.size w4 _ wr4.out hl)
    clear h5 hl c6
    go_wp2_with fail
    refine B.out.mono ?_
    rintro e w5 ⟨v, rfl, ho, b5⟩
    have be5 : Hid (Below w.heap.size w w5) := be2.out.trans ((be4.out.trans (b5.mono be4.out.size)).mono (Nat.le_of_lt hp))
    have ho' : Hid (w5.ownsRow w.heap.size 5 1 v (raw x).length (u8s (raw x))) := own_mono ho (Nat.le_trans be2.out.size be4.out.size)
    clear ho b5
    go_wp2
    go_ret2
    exact ⟨be5.out, fun _ => ⟨v, rfl, ho'.out⟩, fun h => (by cases h)⟩
end Wt
end Go.Proofs.YtpkdigegkemogaaGreatDoor
namespace Go.Proofs.YtpkdigegkemogaaGreatDoor
open Go.RowKit Go.Proofs.YtpkdigegkemogaaGreatDoor.Pk
namespace Wt

theorem op_info : (Tryz.prog.info? 34).map (·.size) = some 5 := by kernel_rfl
end Wt
end Go.Proofs.YtpkdigegkemogaaGreatDoor
namespace Go.Proofs.YtpkdigegkemogaaGreatDoor
open Go.Proofs.YtpkdigegkemogaaGreatDoor.Pk
namespace Wt

theorem raw_len {x : Wan} (h : may x = true) : 0 < (raw x).length ∧ (raw x).length ≤ 70 := by
  refine ⟨?_, cat_len (wz x) (may_I h)⟩
  unfold raw wz
  rw [cat_cons, List.length_append]
  have := enc_ne (zz x.book)
  unfold encI
  omega
end Wt
end Go.Proofs.YtpkdigegkemogaaGreatDoor
