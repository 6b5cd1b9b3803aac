/- Part of the claim: FnC -/
import Derived.Test.YtpkdigegkemogaaGreatDoorFnXaT
import Derived.Test.YtpkdigegkemogaaGreatDoorFnXcT
import Derived.Test.YtpkdigegkemogaaGreatDoorHoXbT
namespace Go.Proofs.YtpkdigegkemogaaGreatDoor
set_option maxRecDepth 100000
open Go.RowKit
open Go.Proofs.YtpkdigegkemogaaGreatDoor.Pk (one_at one_free one_set lt_some)
namespace Fo
open Re (Rec rcc rcv BoxR rmay wpList_rload wpList_rload_g)
open St (Kq grq grq_grq)
open Ho (Hst HTo)
open Ti (Til TTo)
open Sg (Tab)

inductive Nd where
  | host (cap over : Int) (s : Ho.S)
  | till (s : Ti.S)
  | desk (f : Fs.F)
def ap : Nd → Rec → Bool × Nd
  | .host c v s, r => ((apH c v s r).1, .host c v (apH c v s r).2)
  | .till s, r => ((apT s r).1, .till (apT s r).2)
  | .desk f, r => (rmay r && Fs.tks f r, .desk (if rmay r = true then Fs.put f r else f))
def bys : Nd → List UInt8
  | .host c v s => Ho.hbts c v s
  | .till s => Ti.tlbts s
  | .desk f => Fs.bts f
theorem ap_bad (s : Nd) {r : Rec} (h : rmay r = false) : ap s r = (false, s) := by
  cases s with
  | host c v s => unfold ap; simp only [aph_no h]
  | till s => unfold ap; simp only [apt_bad h]
  | desk f => unfold ap; simp only [h, Bool.false_and, if_neg (show ¬(false = true) by decide)]
theorem ap_no {s : Nd} {r : Rec} (h : (ap s r).1 = false) : (ap s r).2 = s := by
  cases s with
  | host c v s => exact congrArg (Nd.host c v) (aph_no2 h)
  | till s => exact congrArg Nd.till (apt_no2 h)
  | desk f =>
    cases hm : rmay r with
    | false => exact congrArg Prod.snd (ap_bad (.desk f) hm)
    | true =>
      have h' : (rmay r && Fs.tks f r) = false := h
      rw [hm, Bool.true_and] at h'
      show Nd.desk (if rmay r = true then Fs.put f r else f) = Nd.desk f
      rw [if_pos hm]
      unfold Fs.put
      rw [if_neg (by rw [h']; decide)]
abbrev fnv (f : Nat) : Value := .func (.func f) #[] #[]
abbrev hostV (h : Nat) : Array Value := #[ptr h, fnv 33, fnv 34]
abbrev tillV (h : Nat) : Array Value := #[ptr h, fnv 35, fnv 36]
abbrev deskV (m : Nat) : Array Value := #[.map (some m), fnv 37, fnv 38]
abbrev hostC (h : Nat) : Array Value := #[.iface 105 (.agg (hostV h)), .map none]
abbrev tillC (h : Nat) : Array Value := #[.iface 109 (.agg (tillV h)), .map none]
abbrev deskC (m : Nat) : Array Value := #[.iface 113 (.agg (deskV m)), .map (some m)]
def Core (w : World) (q : Nat) : Nd → (Nat → Prop) → Prop
  | .host c v s, ff => ∃ h, w.heap[q]? = some (.cells (hostC h) 94 (0, 0)) ∧ Hst w h c v s ff
  | .till s, ff => ∃ h, w.heap[q]? = some (.cells (tillC h) 94 (0, 0)) ∧ Til w h s ff
  | .desk f, ff => ∃ m, w.heap[q]? = some (.cells (deskC m) 94 (0, 0)) ∧ Fs.Map w m f ∧ Fs.Ok f ∧ ff m ∧ ∀ g, ff g → g < w.heap.size
structure R (w : World) (q : Nat) (s : Nd) (fp : Nat → Prop) : Prop where
  pin : fp q
  size : ∀ g, fp g → g < w.heap.size
  core : ∃ ff, (∀ g, ff g → fp g ∧ g ≠ q) ∧ Core w q s ff
section
variable {w w' w1 : World} {q : Nat} {s s' : Nd} {fp ff : Nat → Prop}
theorem Core.size (C : Core w q s ff) : ∀ g, ff g → g < w.heap.size := by
  cases s with
  | host c v s => obtain ⟨h, _, H⟩ := C; exact H.size
  | till s => obtain ⟨h, _, H⟩ := C; exact H.size
  | desk f => obtain ⟨m, _, _, _, _, H⟩ := C; exact H
theorem Core.keep (C : Core w q s ff) (hs : w.heap.size ≤ w'.heap.size) (hq : w'.heap[q]? = w.heap[q]?) (hk : ∀ g, ff g → w'.heap[g]? = w.heap[g]?) : Core w' q s ff := by
  cases s with
  | host c v s => obtain ⟨h, e, H⟩ := C; exact ⟨h, hq.trans e, H.keep hs hk⟩
  | till s => obtain ⟨h, e, H⟩ := C; exact ⟨h, hq.trans e, H.keep hs hk⟩
  | desk f => obtain ⟨m, e, M, O, hm, H⟩ := C; exact ⟨m, hq.trans e, M.keep (hk m hm), O, hm, fun g hg => Nat.lt_of_lt_of_le (H g hg) hs⟩
theorem R.keep (H : R w q s fp) (hs : w.heap.size ≤ w'.heap.size) (hk : ∀ g, fp g → w'.heap[g]? = w.heap[g]?) : R w' q s fp := by
  obtain ⟨ff, hf, C⟩ := H.core
  exact ⟨H.pin, fun g hg => Nat.lt_of_lt_of_le (H.size g hg) hs, ff, hf, C.keep hs (hk q H.pin) fun g hg => hk g (hf g hg).1⟩
theorem R.lt (H : R w q s fp) : q < w.heap.size := H.size q H.pin
theorem R.below (H : R w q s fp) (hb : Below w.heap.size w w') : R w' q s fp := H.keep hb.size fun g hg => hb.block g (H.size g hg)
theorem R.turn (H : R w q s fp) (hf : ∀ g, ff g → fp g ∧ g ≠ q) (k : Kq ff w w') (C : w'.heap[q]? = w.heap[q]? → Core w' q s' (grq ff w w')) : R w' q s' (grq fp w w') ∧ Kq fp w w' := by
  refine ⟨⟨.inl H.pin, fun g hg => ?_, grq ff w w', fun g hg => ?_, C (k.block q H.lt fun e => (hf q e).2 rfl)⟩, k.mono fun g hg => (hf g hg).1⟩
  · rcases hg with hg | hg
    · exact Nat.lt_of_lt_of_le (H.size g hg) k.size
    · exact hg.2
  · rcases hg with hg | hg
    · exact ⟨.inl (hf g hg).1, (hf g hg).2⟩
    · exact ⟨.inr hg, fun e => by have := H.lt; omega⟩
theorem R.same (H : R w q s fp) (hb : Below w.heap.size w w') : R w' q s (grq fp w w') ∧ Kq fp w w' := by
  obtain ⟨ff, hf, C⟩ := H.core
  refine ⟨⟨.inl H.pin, fun g hg => ?_, ff, fun g hg => ⟨.inl (hf g hg).1, (hf g hg).2⟩, C.keep hb.size (hb.block q H.lt) fun g hg => hb.block g (C.size g hg)⟩, .of_below hb⟩
  rcases hg with hg | hg
  · exact Nat.lt_of_lt_of_le (H.size g hg) hb.size
  · exact hg.2
end
theorem m_foldH (h : Nat) (w : World) : (method 401 105 (.agg (hostV h)) "sojourn/fold.fold").run Tryz.prog w = .ok (206, .agg (hostV h)) w := by kernel_rfl
theorem m_bytesH (h : Nat) (w : World) : (method 401 105 (.agg (hostV h)) "sojourn/fold.bytes").run Tryz.prog w = .ok (204, .agg (hostV h)) w := by kernel_rfl
theorem m_entryH (h : Nat) (w : World) : (method 401 105 (.agg (hostV h)) "sojourn/fold.entry").run Tryz.prog w = .ok (205, .agg (hostV h)) w := by kernel_rfl
theorem m_BytesH (h : Nat) (w : World) : (method 401 97 (ptr h) "Bytes").run Tryz.prog w = .ok (234, ptr h) w := by kernel_rfl
theorem m_foldT (h : Nat) (w : World) : (method 401 109 (.agg (tillV h)) "sojourn/fold.fold").run Tryz.prog w = .ok (220, .agg (tillV h)) w := by kernel_rfl
theorem m_bytesT (h : Nat) (w : World) : (method 401 109 (.agg (tillV h)) "sojourn/fold.bytes").run Tryz.prog w = .ok (218, .agg (tillV h)) w := by kernel_rfl
theorem m_BytesT (h : Nat) (w : World) : (method 401 99 (ptr h) "Bytes").run Tryz.prog w = .ok (254, ptr h) w := by kernel_rfl
theorem m_foldD (h : Nat) (w : World) : (method 401 113 (.agg (deskV h)) "sojourn/fold.fold").run Tryz.prog w = .ok (223, .agg (deskV h)) w := by kernel_rfl
theorem m_bytesD (h : Nat) (w : World) : (method 401 113 (.agg (deskV h)) "sojourn/fold.bytes").run Tryz.prog w = .ok (221, .agg (deskV h)) w := by kernel_rfl
theorem m_BytesD (h : Nat) (w : World) : (method 401 92 (.map (some h)) "Bytes").run Tryz.prog w = .ok (201, .map (some h)) w := by kernel_rfl
set_option maxHeartbeats 1600000 in
theorem foldH_any (w : World) (h : Nat) (c v : Int) (s : Ho.S) (fp : Nat → Prop) (H : Hst w h c v s fp) (r : Rec) (hr : rmay r = true) : Calls Tryz.prog 206 #[.agg (hostV h), rcv r] w fun e w' => e = .returned (.bool ((apH c v s r).1)) ∧ HTo w h c v fp (apH c v s r).2 w' := by
  obtain ⟨w0, e0⟩ : ∃ z, z = (w.alloc (.cells (hostV h) 105)).alloc (.cells (rcc r) 64) := ⟨_, rfl⟩
  have be : Hid (Below w.heap.size w w0) := by rw [e0]; exact ((Below.refl _ w).alloc (Nat.le_refl _) _).alloc (by simp) _
  have BN : w0.heap[w.heap.size]? = some (.cells (hostV h) 105 (0, 0)) := by rw [e0]; exact heap_alloc2_old _ _ _
  have BR : Hid (BoxR w0 (w.heap.size + 1) r) := by
    have := heap_alloc_new (w.alloc (.cells (hostV h) 105)) (.cells (rcc r) 64)
    rw [show (w.alloc (.cells (hostV h) 105)).heap.size = w.heap.size + 1 by simp] at this
    rw [e0]
    exact this
  have TK := Lib.hid (htake_any w0 h c v s fp (H.below be.out) r hr)
  have c0 := one_at (i := 0) BN
  have c1 := one_at (i := 1) BN
  have lk := lt_some BN
  replace e0 := Lib.hid e0
  have H' := Lib.hid H
  clear H BN
  unfold rcv
  go_enter Tryz.func206, Tryz.ntmps206
  go_upto_region 1 with fail
  have e0' := e0.out
  unfold rcc at e0'
  rw [← e0']
  clear e0' e0
  go_wp2_with (refine wpList_rload rfl (.tmp 3) rfl (w.heap.size + 1) rfl r BR.out ?_)
  refine TK.out.mono ?_
  rintro e w1 ⟨rfl, h1⟩
  replace h1 := Lib.hid h1
  clear TK c0 c1 lk BR
  go_wp2
  go_ret
  have H := H'.out
  have h1 := h1.out
  exact ⟨rfl, HTo.after H be.out h1⟩
set_option maxHeartbeats 1600000 in
theorem foldT_any (w : World) (h : Nat) (s : Ti.S) (fp : Nat → Prop) (H : Til w h s fp) (r : Rec) (hr : rmay r = true) : Calls Tryz.prog 220 #[.agg (tillV h), rcv r] w fun e w' => e = .returned (.bool ((apT s r).1)) ∧ TTo w h fp (apT s r).2 w' := by
  obtain ⟨w0, e0⟩ : ∃ z, z = (w.alloc (.cells (tillV h) 109)).alloc (.cells (rcc r) 64) := ⟨_, rfl⟩
  have be : Hid (Below w.heap.size w w0) := by rw [e0]; exact ((Below.refl _ w).alloc (Nat.le_refl _) _).alloc (by simp) _
  have BN : w0.heap[w.heap.size]? = some (.cells (tillV h) 109 (0, 0)) := by rw [e0]; exact heap_alloc2_old _ _ _
  have BR : Hid (BoxR w0 (w.heap.size + 1) r) := by
    have := heap_alloc_new (w.alloc (.cells (tillV h) 109)) (.cells (rcc r) 64)
    rw [show (w.alloc (.cells (tillV h) 109)).heap.size = w.heap.size + 1 by simp] at this
    rw [e0]
    exact this
  have TK := Lib.hid (ttake_any w0 h s fp (H.below be.out) r hr)
  have c0 := one_at (i := 0) BN
  have c1 := one_at (i := 1) BN
  have lk := lt_some BN
  replace e0 := Lib.hid e0
  have H' := Lib.hid H
  clear H BN
  unfold rcv
  go_enter Tryz.func220, Tryz.ntmps220
  go_upto_region 1 with fail
  have e0' := e0.out
  unfold rcc at e0'
  rw [← e0']
  clear e0' e0
  go_wp2_with (refine wpList_rload rfl (.tmp 3) rfl (w.heap.size + 1) rfl r BR.out ?_)
  refine TK.out.mono ?_
  rintro e w1 ⟨rfl, h1⟩
  replace h1 := Lib.hid h1
  clear TK c0 c1 lk BR
  go_wp2
  go_ret
  have H := H'.out
  have h1 := h1.out
  exact ⟨rfl, TTo.after H be.out h1⟩
set_option maxHeartbeats 1600000 in
theorem foldD_any (w : World) (h : Nat) (t : Tab w) (f : Fs.F) (H : Fs.Map w h f) (r : Rec) (hr : rmay r = true) : Calls Tryz.prog 223 #[.agg (deskV h), rcv r] w fun e w' => e = .returned (.bool (Fs.tks f r)) ∧ (Fs.Map w' h (Fs.put f r) ∧ Kq (fun g => g = h) w w') := by
  obtain ⟨w0, e0⟩ : ∃ z, z = (w.alloc (.cells (deskV h) 113)).alloc (.cells (rcc r) 64) := ⟨_, rfl⟩
  have be : Hid (Below w.heap.size w w0) := by rw [e0]; exact ((Below.refl _ w).alloc (Nat.le_refl _) _).alloc (by simp) _
  have BN : w0.heap[w.heap.size]? = some (.cells (deskV h) 113 (0, 0)) := by rw [e0]; exact heap_alloc2_old _ _ _
  have BR : Hid (BoxR w0 (w.heap.size + 1) r) := by
    have := heap_alloc_new (w.alloc (.cells (deskV h) 113)) (.cells (rcc r) 64)
    rw [show (w.alloc (.cells (deskV h) 113)).heap.size = w.heap.size + 1 by simp] at this
    rw [e0]
    exact this
  have TK := Lib.hid (Fs.take_any w0 (t.below be.out) h f (H.below be.out) r hr)
  have c0 := one_at (i := 0) BN
  have c1 := one_at (i := 1) BN
  have lk := lt_some BN
  replace e0 := Lib.hid e0
  have H' := Lib.hid H
  clear H BN t
  unfold rcv
  go_enter Tryz.func223, Tryz.ntmps223
  go_upto_region 1 with fail
  have e0' := e0.out
  unfold rcc at e0'
  rw [← e0']
  clear e0' e0
  go_wp2_with (refine wpList_rload rfl (.tmp 3) rfl (w.heap.size + 1) rfl r BR.out ?_)
  refine TK.out.mono ?_
  rintro e w1 ⟨rfl, h1⟩
  replace h1 := Lib.hid h1
  clear TK c0 c1 lk BR
  go_wp2
  go_ret
  have H := H'.out
  have h1 := h1.out
  exact ⟨rfl, ⟨h1.1, (Kq.of_below be.out).trans (h1.2.mono fun _ e => .inl e)⟩⟩
set_option maxHeartbeats 1600000 in
theorem bytesH_any (w : World) (h : Nat) (c v : Int) (s : Ho.S) (fp : Nat → Prop) (H : Hst w h c v s fp) : Calls Tryz.prog 204 #[.agg (hostV h)] w (Pk.Copied w (Ho.hbts c v s).length (Ho.hbts c v s)) := by
  obtain ⟨w0, e0⟩ : ∃ z, z = w.alloc (.cells (hostV h) 105) := ⟨_, rfl⟩
  have be : Hid (Below w.heap.size w w0) := by rw [e0]; exact (Below.refl _ w).alloc (Nat.le_refl _) _
  have BN : w0.heap[w.heap.size]? = some (.cells (hostV h) 105 (0, 0)) := by rw [e0]; exact heap_alloc_new _ _
  have TK := Lib.hid (Ho.bytes_any w0 h c v s fp (H.below be.out))
  generalize Ho.hbts c v s = bs at *
  have c0 := one_at (i := 0) BN
  have lk := lt_some BN
  have MB := fun w => m_BytesH h w
  replace e0 := Lib.hid e0
  clear H BN
  go_enter Tryz.func204, Tryz.ntmps204
  go_upto_region 1 with fail
  rw [← e0.out]
  clear e0
  go_wp2_with fail
  refine TK.out.mono ?_
  rintro e w1 ⟨v, rfl, h1, h2⟩
  replace h1 := Lib.hid h1
  replace h2 := Lib.hid h2
  clear TK c0 lk MB
  go_wp2
  go_ret
  exact ⟨v, rfl, ownsRow_base_a h1.out be.out.size, be.out.trans (h2.out.mono be.out.size)⟩
set_option maxHeartbeats 1600000 in
theorem bytesT_any (w : World) (h : Nat) (s : Ti.S) (fp : Nat → Prop) (H : Til w h s fp) : Calls Tryz.prog 218 #[.agg (tillV h)] w (Pk.Copied w (Ti.tlbts s).length (Ti.tlbts s)) := by
  obtain ⟨w0, e0⟩ : ∃ z, z = w.alloc (.cells (tillV h) 109) := ⟨_, rfl⟩
  have be : Hid (Below w.heap.size w w0) := by rw [e0]; exact (Below.refl _ w).alloc (Nat.le_refl _) _
  have BN : w0.heap[w.heap.size]? = some (.cells (tillV h) 109 (0, 0)) := by rw [e0]; exact heap_alloc_new _ _
  have TK := Lib.hid (Ti.bytes_any w0 h s fp (H.below be.out))
  generalize Ti.tlbts s = bs at *
  have c0 := one_at (i := 0) BN
  have lk := lt_some BN
  have MB := fun w => m_BytesT h w
  replace e0 := Lib.hid e0
  clear H BN
  go_enter Tryz.func218, Tryz.ntmps218
  go_upto_region 1 with fail
  rw [← e0.out]
  clear e0
  go_wp2_with fail
  refine TK.out.mono ?_
  rintro e w1 ⟨v, rfl, h1, h2⟩
  replace h1 := Lib.hid h1
  replace h2 := Lib.hid h2
  clear TK c0 lk MB
  go_wp2
  go_ret
  exact ⟨v, rfl, ownsRow_base_a h1.out be.out.size, be.out.trans (h2.out.mono be.out.size)⟩
set_option maxHeartbeats 1600000 in
theorem bytesD_any (w : World) (h : Nat) (t : Tab w) (f : Fs.F) (H : Fs.Map w h f) (O : Fs.Ok f) : Calls Tryz.prog 221 #[.agg (deskV h)] w (Pk.Copied w (Fs.bts f).length (Fs.bts f)) := by
  obtain ⟨w0, e0⟩ : ∃ z, z = w.alloc (.cells (deskV h) 113) := ⟨_, rfl⟩
  have be : Hid (Below w.heap.size w w0) := by rw [e0]; exact (Below.refl _ w).alloc (Nat.le_refl _) _
  have BN : w0.heap[w.heap.size]? = some (.cells (deskV h) 113 (0, 0)) := by rw [e0]; exact heap_alloc_new _ _
  have TK := Lib.hid (Fs.bytes_any w0 (t.below be.out) h f (H.below be.out) O)
  generalize Fs.bts f = bs at *
  have c0 := one_at (i := 0) BN
  have lk := lt_some BN
  have MB := fun w => m_BytesD h w
  replace e0 := Lib.hid e0
  clear H BN t O
  go_enter Tryz.func221, Tryz.ntmps221
  go_upto_region 1 with fail
  rw [← e0.out]
  clear e0
  go_wp2_with fail
  refine TK.out.mono ?_
  rintro e w1 ⟨v, rfl, h1, h2⟩
  replace h1 := Lib.hid h1
  replace h2 := Lib.hid h2
  clear TK c0 lk MB
  go_wp2
  go_ret
  exact ⟨v, rfl, ownsRow_base_a h1.out be.out.size, be.out.trans (h2.out.mono be.out.size)⟩
end Fo
end Go.Proofs.YtpkdigegkemogaaGreatDoor
