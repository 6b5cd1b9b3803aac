/- The document's disk: good, at, Used, Read. -/
import Derived.Test.YtpkjeplhdnbihaaRfA
namespace Go.Proofs.Ytpkjeplhdnbihaa
open Go.RowKit
open Go.Proofs.Ytpkjeplhdnbihaa.Pk
namespace Dk

set_option maxHeartbeats 400000 in
theorem rgood (w : World) (s : ByteArray) : Calls Try.prog 32 #[.string s] w fun e w' => e = .returned (.bool (good (nm s))) ∧ w = w' := by
  rw [← good_nm]
  go_enter Try.func32, Try.ntmps32
  by_cases h1 : 1 ≤ s.size
  · by_cases h2 : s.size ≤ 20
    · have e1 : decide ((1 : Int) ≤ (s.size : Int)) = true := decide_eq_true (by omega)
      have e2 : decide ((s.size : Int) ≤ 20) = true := decide_eq_true (by omega)
      go_wp2
      go_ret
      exact ⟨by simp [h1, h2], rfl⟩
    · have e1 : decide ((1 : Int) ≤ (s.size : Int)) = true := decide_eq_true (by omega)
      have e2 : decide ((s.size : Int) ≤ 20) = false := decide_eq_false (by omega)
      go_wp2
      go_ret
      exact ⟨by simp [h1, h2], rfl⟩
  · have e1 : decide ((1 : Int) ≤ (s.size : Int)) = false := decide_eq_false (by omega)
    go_wp2
    go_ret
    exact ⟨by simp [h1], rfl⟩

def UsAt (L : St) (t i : Value) (w wr : World) : Prop := ∃ k : Nat, i = .int .i64 (k : Nat) ∧ t = .int .i64 (used (L.take k) : Nat) ∧ k ≤ L.length ∧ wr = w
set_option maxHeartbeats 1600000 in
theorem rused (w : World) (q room : Nat) (L : St) (v : Value) (R : Rf w q room L v) (hu : used L ≤ 1000000) (hl : L.length ≤ 1000000) : Calls Try.prog 33 #[.pointer (some ⟨q, 0, none⟩)] w fun e w' => e = .returned (.int .i64 (used L : Nat)) ∧ w = w' := by
  have c1 : w.cell? ⟨q, 1, none⟩ = some v := one_at (i := 1) R.cells
  obtain ⟨A, c, rfl, hnc, hc, _⟩ := row_form R.row
  have RH := Lib.hid R
  obtain ⟨n, hn⟩ : ∃ n, n = L.length := ⟨_, rfl⟩
  rw [← hn] at c1 hl hnc
  replace hn := Lib.hid hn
  replace hu := Lib.hid hu
  clear R
  go_enter Try.func33, Try.ntmps33
  go_wp2_with fail
  go_loopw [3, 4] (fun t i wr => UsAt L t i w wr) (fun _ i _ => n - (intOf i).toNat)
  case atStart => exact ⟨0, rfl, rfl, Nat.zero_le _, rfl⟩
  case round =>
    obtain ⟨k, rfl, rfl, hk, rfl⟩ := hrel
    by_cases hlt : k < n
    · obtain ⟨p, hp⟩ : ∃ p, L[k]? = some p := ⟨_, List.getElem?_eq_getElem (by have := hn.out; omega)⟩
      obtain ⟨g, c', e0, _, _, e1, e2, e3, _⟩ := RH.out.file hp
      injection e0 with eA e4 e5
      subst eA; subst e5
      have hstep : used (L.take (k + 1)) = used (L.take k) + p.2.1.length := by
        rw [List.take_add_one, hp]
        simp [used, sum]
      have hle : used (L.take (k + 1)) ≤ used L := sum_take_le _ L (k + 1)
      have hsz : (str p.2.1).size = p.2.1.length := str_size _
      obtain ⟨u, hu1⟩ : ∃ u, u = used (L.take k) := ⟨_, rfl⟩
      obtain ⟨u', hu2⟩ : ∃ u, u = used (L.take (k + 1)) := ⟨_, rfl⟩
      obtain ⟨sz, hz⟩ : ∃ u, u = p.2.1.length := ⟨_, rfl⟩
      rw [← hz] at hsz hstep
      rw [← hu1] at hstep ⊢
      rw [← hu2] at hstep hle
      have ew : wrap64 ((u : Int) + (sz : Int)) = (u' : Int) := by rw [IntWalk.wrap64_in _ (by have := hu.out; omega)]; omega
      have i1 : (k : Int) < (n : Int) := by omega
      have i2 : (n : Int) ≤ 1000000 := by omega
      have nx : Hid (UsAt L (.int .i64 (u' : Nat)) (.int .i64 ((k : Int) + 1)) wr wr) := ⟨k + 1, by simp, by rw [hu2], by have := hn.out; omega, rfl⟩
      clear hstep hle hu1 hu2 hz hp
      go_wp2
      rw [ew]
      exact ⟨nx.out, by simp [intOf]; omega⟩
    · obtain rfl : k = n := by have := hn.out; omega
      have e : used (L.take k) = used L := by rw [hn.out, List.take_length]
      rw [e]
      go_wp2
      go_ret
      exact ⟨rfl, rfl⟩

def AtAt (n : Bs) (L : St) (i : Value) (w wr : World) : Prop := ∃ k : Nat, i = .int .i64 (k : Nat) ∧ k ≤ pos n L ∧ wr = w
/-- Where a file stands, or would; is it there? -/
def RatTo (w : World) (n : Bs) (L : St) (e : Ending) (w' : World) : Prop := e = .returned (.tuple #[.int .i64 (pos n L : Nat), .bool (look n L).isSome]) ∧ Below w.heap.size w w'
set_option maxHeartbeats 1600000 in
theorem rat (w : World) (q room : Nat) (L : St) (v : Value) (s : ByteArray) (R : Rf w q room L v) (hr : Rise L) (hl : L.length ≤ 1000000) : Calls Try.prog 34 #[.pointer (some ⟨q, 0, none⟩), .string s] w (RatTo w (nm s) L) := by
  have c1 : w.cell? ⟨q, 1, none⟩ = some v := one_at (i := 1) R.cells
  obtain ⟨A, c, rfl, hnc, hc, _⟩ := row_form R.row
  have RH := Lib.hid R
  replace hr := Lib.hid hr
  obtain ⟨n, hn⟩ : ∃ n, n = L.length := ⟨_, rfl⟩
  rw [← hn] at c1 hl hnc
  have hpl : pos (nm s) L ≤ n := by rw [hn]; exact pos_le L
  obtain ⟨m, hm⟩ : ∃ m, m = pos (nm s) L := ⟨_, rfl⟩
  rw [← hm] at hpl
  have hRT : Hid (RatTo w (nm s) L = fun e w' => e = .returned (.tuple #[.int .i64 (m : Nat), .bool (look (nm s) L).isSome]) ∧ Below w.heap.size w w') := by
    unfold Hid RatTo
    rw [hm]
  rw [hRT.out]
  obtain ⟨b, hb0⟩ : ∃ b, b = (look (nm s) L).isSome := ⟨_, rfl⟩
  rw [← hb0]
  replace hb0 := Lib.hid hb0
  replace hn := Lib.hid hn
  replace hm := Lib.hid hm
  clear R hRT
  go_enter Try.func34, Try.ntmps34
  go_wp2_with fail
  go_loopw [6] (fun i wr => AtAt (nm s) L i w wr) (fun i _ => n + 1 - (intOf i).toNat)
  case atStart => exact ⟨0, rfl, Nat.zero_le _, rfl⟩
  case round =>
    obtain ⟨k, rfl, hk, rfl⟩ := hrel
    have i3 : (n : Int) ≤ 1000000 := by omega
    have i4 : (0 : Int) ≤ (k : Int) := by omega
    by_cases hlt : k < n
    · obtain ⟨p, hp⟩ : ∃ p, L[k]? = some p := ⟨_, List.getElem?_eq_getElem (by have := hn.out; omega)⟩
      obtain ⟨g, c', e0, _, _, e1, e2, e3, _⟩ := RH.out.file hp
      injection e0 with eA e4 e5
      subst eA; subst e5
      have i1 : (k : Int) < (n : Int) := by omega
      have ts : s.toList = nm s := nm_toList s
      have tp : (str p.1).toList = p.1 := str_toList _
      by_cases hkm : k < m
      · have hb : Op.bytesLess p.1 (nm s) = true := by rw [less_bb]; exact pos_before (by rw [← hm.out]; exact hkm) hp
        have nx : Hid (AtAt (nm s) L (.int .i64 ((k : Int) + 1)) wr wr) := ⟨k + 1, by simp, by rw [← hm.out]; exact hkm, rfl⟩
        generalize p.1 = x at *
        generalize nm s = y at *
        clear hp
        go_wp2
        exact ⟨nx.out, by simp [intOf]; omega⟩
      · obtain rfl : k = m := by have := hm.out; omega
        have hb : Op.bytesLess p.1 (nm s) = false := by rw [less_bb]; exact pos_not (by rw [← hm.out]; exact hp)
        have hq : (look (nm s) L).isSome = (p.1 == nm s) := by
          cases hlk : look (nm s) L with
          | none =>
            have := pos_none hlk (by rw [← hm.out]; exact hp)
            simpa using this
          | some a =>
            have := pos_found hr.out hlk
            rw [← hm.out, hp] at this
            injection this with this
            rw [this]
            simp
        have hbb' : (p.1 == nm s) = b := by rw [hb0.out, hq]
        clear hp hq hb0
        generalize p.1 = x at *
        generalize nm s = y at *
        go_wp2
        go_quiet (fail)
        go_wp2
        go_ret2
        exact ⟨rfl, ⟨rfl, rfl, rfl, Nat.le_refl _, fun _ _ => rfl⟩⟩
    · obtain rfl : k = n := by have := hm.out; omega
      obtain rfl : k = m := by have := hm.out; omega
      have hno : (look (nm s) L).isSome = false := by
        cases hlk : look (nm s) L with
        | none => rfl
        | some a =>
          have := pos_found hr.out hlk
          rw [← hm.out, List.getElem?_eq_none (by have := hn.out; omega)] at this
          cases this
      obtain rfl : b = false := by rw [hb0.out, hno]
      have q1 : decide (k < k) = false := decide_eq_false (by omega)
      clear hno
      go_wp2
      go_quiet (fail)
      go_wp2
      go_ret2
      exact ⟨rfl, ⟨rfl, rfl, rfl, Nat.le_refl _, fun _ _ => rfl⟩⟩
end Dk
end Go.Proofs.Ytpkjeplhdnbihaa
