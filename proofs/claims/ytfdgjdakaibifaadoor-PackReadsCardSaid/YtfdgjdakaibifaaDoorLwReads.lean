/- Proved: what is read, whatever the bytes and the questions (PackReads), the package's table being as the program's text lays it. -/
import Derived.Test.YtfdgjdakaibifaaDoorPkU
import Derived.Test.YtfdgjdakaibifaaDoorPkO
import Derived.Test.YtfdgjdakaibifaaDoorCards
import Derived.Test.YtfdgjdakaibifaaDoorTie
import Derived.Deep.RegionHeld3
import Derived.Lib.QuietBelow
namespace Go.Proofs.YtfdgjdakaibifaaDoor.packReads
open Go.ChangeShapes Go.WideShapes Go.ChangeAt Go.WideElems Go.RowKit
open Go.Sort (grow)
open Go.ChangeMaps (open_string shut_string)
open Go.Proofs.YtfdgjdakaibifaaDoor.Pk


/-- Both readers stand alike. -/
def LAt (w : World) (r x : Nat) (L : Nat) (i : Value) (wr : World) : Prop :=
  ∃ (k : Nat) (s : St), i = .int .i64 k ∧ k ≤ L ∧ Rd wr r s ∧ Rx wr x s ∧ Below w.heap.size w wr
theorem rb_below {w w1 : World} {A : Option Addr} {m : Nat} {bs : List UInt8} (R : Rb w (fun g => g < w.heap.size) A m bs) (h : Below w.heap.size w w1) : Rb w1 (fun g => g < w1.heap.size) A m bs :=
  R.keep (fun g hg => h.block g hg) (fun _ hg => Nat.lt_of_lt_of_le hg h.size)
def SX (w : World) (A : Option Addr) (m c : Nat) (bs : List UInt8) (w1 : World) : Prop := (convert 34 9 (.slice A m c)).run Tryd.prog w1 = .ok (.string (str bs)) w1 ∧ Below w.heap.size w w1
theorem sx_of {w w1 : World} {A : Option Addr} {m : Nat} {bs : List UInt8} {c : Nat} (R : Rb w (fun g => g < w.heap.size) A m bs) (h : Below w.heap.size w w1) : (convert 34 9 (.slice A m c)).run Tryd.prog w1 = .ok (.string (str bs)) w1 ∧ Below w.heap.size w w1 :=
  ⟨str_run (c := c) (rb_below R h), h⟩
theorem start1 {w w1 w2 : World} {r : Nat} {bs : List UInt8} (L : Nat) (hlen : bs.length ≤ 400) (b0 : Below w.heap.size w w1) (R1 : Rd w2 r (some bs)) (b1 : Below w1.heap.size w1 w2) :
    LAt w r w2.heap.size L (.int .i64 0) (w2.alloc (.cells #[.string (str bs), .bool false] 41)) := by
  have a : Below w2.heap.size w2 (w2.alloc (.cells #[.string (str bs), .bool false] 41)) := (Below.refl _ _).alloc (Nat.le_refl _) _
  refine ⟨0, some bs, rfl, Nat.zero_le _, R1.below a, ⟨bs, false, ?_, hlen, rfl⟩, (b0.trans (b1.mono b0.size)).trans (a.mono (Nat.le_trans b0.size b1.size))⟩
  show (w2.heap.push _)[w2.heap.size]? = _
  simp
theorem start2 {w w1 w2 : World} {r : Nat} {bs : List UInt8} (L : Nat) (hlen : bs.length ≤ 400) (b0 : Below w.heap.size w w1) (R1 : Rd w2 r (some bs)) (b1' : Below (w1.alloc (.cells #[.string (str bs), .bool false] 41)).drew.heap.size (w1.alloc (.cells #[.string (str bs), .bool false] 41)).drew w2) :
    LAt w r w1.heap.size L (.int .i64 0) w2 := by
  have b1 : Below (w1.alloc (.cells #[.string (str bs), .bool false] 41)).heap.size (w1.alloc (.cells #[.string (str bs), .bool false] 41)) w2 := ⟨b1'.os, b1'.tape, b1'.output, b1'.size, b1'.block⟩
  have a : Below w1.heap.size w1 (w1.alloc (.cells #[.string (str bs), .bool false] 41)) := (Below.refl _ _).alloc (Nat.le_refl _) _
  refine ⟨0, some bs, rfl, Nat.zero_le _, R1, ⟨bs, false, (b1.block w1.heap.size (by simp)).trans (by show (w1.heap.push _)[w1.heap.size]? = _; simp), hlen, rfl⟩, ?_⟩
  exact (b0.trans (a.mono b0.size)).trans (b1.mono (Nat.le_trans b0.size a.size))

theorem rd_ne {w : World} {r x : Nat} {s s' : St} (h : Rd w r s) (k : Rx w x s') : r ≠ x := by
  obtain ⟨A, n, c, f, bs, h1, _⟩ := h
  obtain ⟨b2, f2, h2, _⟩ := k
  intro e
  subst e
  rw [h1] at h2
  simp at h2
theorem rd_over {w w' : World} {r x : Nat} {s s' q : St} (h : Rd w r s) (k : Rx w x s') (hx : RxTo w x q w') : Rd w' r s := by
  have hne := rd_ne h k
  obtain ⟨b2, f2, h2, _⟩ := k
  exact h.grown hx.gr hne h2 (by decide)
theorem rx_over {w w' : World} {r x : Nat} {s s' q : St} (h : Rd w r s) (k : Rx w x s') (hr : RdTo w r q w') : Rx w' x s' :=
  k.same (hr.gr.block x k.lt (fun e => rd_ne h k (by injection e with e; exact e.symm)))
theorem rd_at {wr : World} {r x : Nat} {s q : St} (h : Rd wr r s) (k : Rx wr x s) (w6 : World) (hw : w6 = wr.drew ∨ RxTo wr.drew x q w6) : Rd w6 r s := by
  rcases hw with rfl | hx
  · exact h.drewN 1
  · exact rd_over (h.drewN 1) (k.drewN 1) hx
theorem rx_at {wr : World} {r x : Nat} {s q : St} (h : Rd wr r s) (k : Rx wr x s) (w6 : World) (hw : w6 = wr.drew ∨ RdTo wr.drew r q w6) : Rx w6 x s := by
  rcases hw with rfl | hr
  · exact k.drewN 1
  · exact rx_over (h.drewN 1) (k.drewN 1) hr
theorem next1 {w wr w6 w7 : World} {r x n k : Nat} {s q : St} (h : Rd wr r s) (kx : Rx wr x s) (hk : k < n) (hr : RdTo wr.drew r q w6) (hx : RxTo w6 x q w7) (hb : Below w.heap.size w w7) : LAt w r x n (.int .i64 ((k : Int) + 1)) w7 :=
  ⟨k + 1, q, rfl, hk, rd_over hr.rd (rx_at h kx w6 (.inr hr)) hx, hx.rx, hb⟩
theorem nextb {w wr w6 w7 : World} {r x n k : Nat} {s q : St} (h : Rd wr r s) (kx : Rx wr x s) (hk : k < n) (hr : RdTo wr r q w6) (hx : RxTo w6 x q w7) (hb : Below w.heap.size w w7) : LAt w r x n (.int .i64 ((k : Int) + 1)) w7 :=
  ⟨k + 1, q, rfl, hk, rd_over hr.rd (rx_over h kx hr) hx, hx.rx, hb⟩
theorem next2 {w wr w6 w7 : World} {r x n k : Nat} {s q : St} (h : Rd wr r s) (kx : Rx wr x s) (hk : k < n) (hx : RxTo wr.drew x q w6) (hr : RdTo w6 r q w7) (hb : Below w.heap.size w w7) : LAt w r x n (.int .i64 ((k : Int) + 1)) w7 :=
  ⟨k + 1, q, rfl, hk, hr.rd, rx_over (rd_at h kx w6 (.inr hx)) hx.rx hr, hb⟩

set_option maxHeartbeats 3200000 in
set_option maxRecDepth 100000 in
theorem walk (A : Option Addr) (m c : Nat) (bs : List UInt8) (hA : A = none → c = 0) (w : World) (R : Rb w (fun g => g < w.heap.size) A m bs)
    (L : Option Addr) (n d : Nat) (l : List OpR) (O : Ops w w.heap.size L n l) (ht : Tab w) :
    Calls Tryd.prog 4 #[.slice A m c, .slice L n d] w fun e w' => e = .returned (.bool true) ∧ Below w.heap.size w w' := by
  replace ht := Lib.hid ht
  replace hA := Lib.hid hA
  replace R := Lib.hid R
  replace O := Lib.hid O
  by_cases h400 : 400 < m
  · have Q := Lib.hid (told_any w ht.out)
    go_enter Tryd.func4, Tryd.ntmps4
    go_wp2_with (go_at_call 11; ((with_reducible refine Q.out.mono ?_); rintro e w' ⟨rfl, hb⟩))
    go_ret
    exact ⟨rfl, hb⟩
  by_cases h40 : 40 < n
  · have Q := Lib.hid (told_any w ht.out)
    go_enter Tryd.func4, Tryd.ntmps4
    go_wp2_with (go_at_call 11; ((with_reducible refine Q.out.mono ?_); rintro e w' ⟨rfl, hb⟩))
    go_ret
    exact ⟨rfl, hb⟩
  have hl := Lib.hid R.out.len
  go_enter Tryd.func4, Tryd.ntmps4
  have NW : Hid (∀ w1, Below w.heap.size w w1 → Calls Tryd.prog 18 #[.slice A m c] w1 (NewTo w1 bs)) := fun w1 h => new_any w1 A m c bs (rb_below R.out h) (fun g hg => hg) (by omega) hA.out
  have sx0 := sx_of (c := c) R.out (Below.refl w.heap.size w).drew
  go_wp2_with fail
  go_region_held3 (fun w' => (convert 34 9 (.slice A m c)).run Tryd.prog w' = .ok (.string (str bs)) w' ∧ Below w.heap.size w w')
    (first | assumption | exact sx0 | exact sx_of R.out (Below.alloc (And.right (by assumption)) (Below.size (And.right (by assumption))) _) | go_keep)
    ((go_at_call 18; refine (NW.out _ (And.right (by assumption))).mono ?_; rintro e w2 ⟨r, rfl, hr, R1, b1⟩; have sx2 := sx_of (c := c) R.out (Below.trans (And.right (by assumption)) (b1.mono (Below.size (And.right (by assumption)))))))
  · have st : Hid (LAt w r w2.heap.size n (.int .i64 0) (w2.alloc (.cells #[.string (str bs), .bool false] 41))) := start1 n (by have := hl.out; omega) ((Below.refl _ _).drew) R1 b1
    have hrw : Hid (w.heap.size ≤ r) := hr
    have hxw : Hid (w.heap.size ≤ w2.heap.size) := b1.size
    obtain ⟨W, hW⟩ : ∃ W, W = w2.alloc (.cells #[.string (str bs), .bool false] 41) := ⟨_, rfl⟩
    obtain ⟨x, hx⟩ : ∃ x, x = w2.heap.size := ⟨_, rfl⟩
    rw [← hW, ← hx] at st
    rw [← hx] at hxw
    rw [← hW, ← hx]
    clear hr R1 b1 sx2 sx0 NW
    replace hx := Lib.hid hx
    go_wp2_with fail
    go_loopw [7] (fun i wr => LAt w r x n i wr) (fun i _ => n - (intOf i).toNat)
    case atStart => exact st.out
    case round =>
      obtain ⟨k, s, rfl, hk, R2, X2, b2⟩ := hrel
      replace R2 := Lib.hid R2
      replace X2 := Lib.hid X2
      replace b2 := Lib.hid b2
      by_cases hlt : k < n
      · obtain ⟨a, hLa, hab, hat⟩ := O.out.at_ (by omega)
        obtain ⟨o, ho⟩ : ∃ o, l[k]? = some o := ⟨_, List.getElem?_eq_getElem (by have := O.out.len; omega)⟩
        have at1 := (hat k o ho).same (b2.out.block _ hab)
        have q0 := at1.c0
        replace hat := Lib.hid hat
        replace ho := Lib.hid ho
        subst hLa
        clear at1
        by_cases k0 : o.kind = 0
        · rw [k0] at q0
          clear k0
          have SAT : Hid (∀ w', Below w.heap.size w w' → w'.cell? ⟨(a.add (k * 6)).block, (a.add (k * 6)).off + 3, none⟩ = some (.int .i64 o.lo) ∧ w'.cell? ⟨(a.add (k * 6)).block, (a.add (k * 6)).off + 4, none⟩ = some (.int .i64 o.hi) ∧ Below w.heap.size w w') := fun w' h => by
            have at6 := (hat.out k o ho.out).same (h.block _ hab)
            exact ⟨at6.c3, at6.c4, h⟩
          have s0 := SAT.out wr.drew b2.out.drew
          have QR : Hid (∀ w6, (w6 = wr.drew ∨ RxTo wr.drew x (rInt o.lo o.hi s).2 w6) → Calls Tryd.prog 19 #[.pointer (some ⟨r, 0, none⟩), .int .i64 o.lo, .int .i64 o.hi] w6 fun e w' => e = .returned (.int .i64 (rInt o.lo o.hi s).1) ∧ RdTo w6 r (rInt o.lo o.hi s).2 w') := fun w6 h => (rint_any r w6 s o.lo o.hi (rd_at R2.out X2.out w6 h))
          have QX : Hid (∀ w6, (w6 = wr.drew ∨ RdTo wr.drew r (rInt o.lo o.hi s).2 w6) → Calls Tryd.prog 20 #[.pointer (some ⟨x, 0, none⟩), .int .i64 o.lo, .int .i64 o.hi] w6 fun e w' => e = .returned (.int .i64 (rInt o.lo o.hi s).1) ∧ RxTo w6 x (rInt o.lo o.hi s).2 w') := fun w6 h => (xint x w6 s o.lo o.hi (rx_at R2.out X2.out w6 h))
          go_wp2_with fail
          go_region_held3 (fun w' => w'.cell? ⟨(a.add (k * 6)).block, (a.add (k * 6)).off + 3, none⟩ = some (.int .i64 o.lo) ∧ w'.cell? ⟨(a.add (k * 6)).block, (a.add (k * 6)).off + 4, none⟩ = some (.int .i64 o.hi) ∧ Below w.heap.size w w') (first | assumption | exact s0 | go_keep)
            ((first
              | (go_at_call 19; refine (QR.out _ (by first | exact Or.inl rfl | exact Or.inr (by assumption))).mono ?_; rintro e w6 ⟨rfl, hr⟩; have sr := SAT.out _ (Below.trans (And.right (And.right (by assumption))) (grown_below hr.gr hrw.out (Below.size (And.right (And.right (by assumption)))))))
              | (go_at_call 20; refine (QX.out _ (by first | exact Or.inl rfl | exact Or.inr (by assumption))).mono ?_; rintro e w6 ⟨rfl, hx⟩; have sr := SAT.out _ (Below.trans (And.right (And.right (by assumption))) (grown_below hx.gr hxw.out (Below.size (And.right (And.right (by assumption)))))))))
          all_goals
            go_wp2
            go_roundw
            case rel => first | exact next1 R2.out X2.out hlt (by assumption) (by assumption) (And.right (And.right (by assumption))) | exact next2 R2.out X2.out hlt (by assumption) (by assumption) (And.right (And.right (by assumption)))
            case measure => simp [intOf]; omega
        · by_cases k1 : o.kind = 1
          · rw [k1] at q0
            clear k1 k0
            have SAT : Hid (∀ w', Below w.heap.size w w' → w'.cell? ⟨(a.add (k * 6)).block, (a.add (k * 6)).off + 5, none⟩ = some (.int .i64 o.most) ∧ Below w.heap.size w w') := fun w' h => by
              have at6 := (hat.out k o ho.out).same (h.block _ hab)
              exact ⟨at6.c5, h⟩
            have s0 := SAT.out wr.drew b2.out.drew
            have QR : Hid (∀ w6, (w6 = wr.drew ∨ RxTo wr.drew x (rText o.most s).2 w6) → Calls Tryd.prog 21 #[.pointer (some ⟨r, 0, none⟩), .int .i64 o.most] w6 fun e w' => e = .returned (.string (str (rText o.most s).1)) ∧ RdTo w6 r (rText o.most s).2 w') := fun w6 h => (rtext_any r w6 s o.most (rd_at R2.out X2.out w6 h))
            have QX : Hid (∀ w6, (w6 = wr.drew ∨ RdTo wr.drew r (rText o.most s).2 w6) → Calls Tryd.prog 22 #[.pointer (some ⟨x, 0, none⟩), .int .i64 o.most] w6 fun e w' => e = .returned (.string (str (rText o.most s).1)) ∧ RxTo w6 x (rText o.most s).2 w') := fun w6 h => (xtext x w6 s o.most (rx_at R2.out X2.out w6 h))
            go_wp2_with fail
            go_region_held3 (fun w' => w'.cell? ⟨(a.add (k * 6)).block, (a.add (k * 6)).off + 5, none⟩ = some (.int .i64 o.most) ∧ Below w.heap.size w w') (first | assumption | exact s0 | go_keep)
              ((first
                | (go_at_call 21; refine (QR.out _ (by first | exact Or.inl rfl | exact Or.inr (by assumption))).mono ?_; rintro e w6 ⟨rfl, hr⟩; have sr := SAT.out _ (Below.trans (And.right (by assumption)) (grown_below hr.gr hrw.out (Below.size (And.right (by assumption))))))
                | (go_at_call 22; refine (QX.out _ (by first | exact Or.inl rfl | exact Or.inr (by assumption))).mono ?_; rintro e w6 ⟨rfl, hx⟩; have sr := SAT.out _ (Below.trans (And.right (by assumption)) (grown_below hx.gr hxw.out (Below.size (And.right (by assumption))))))))
            all_goals
              go_wp2
              go_roundw
              case rel => first | exact next1 R2.out X2.out hlt (by assumption) (by assumption) (And.right (by assumption)) | exact next2 R2.out X2.out hlt (by assumption) (by assumption) (And.right (by assumption))
              case measure => simp [intOf]; omega
          · by_cases k2 : o.kind = 2
            · rw [k2] at q0
              clear k2 k1 k0
              go_wp2_with fail
              refine (rbyte_any r wr s R2.out).mono ?_
              rintro e w6 ⟨rfl, hr⟩
              have X6 := Lib.hid (rx_over R2.out X2.out hr)
              have b6 : Hid (Below w.heap.size w w6) := b2.out.trans (grown_below hr.gr hrw.out b2.out.size)
              go_wp2_with fail
              refine (xbyte x w6 s X6.out).mono ?_
              rintro e w7 ⟨rfl, hx7⟩
              have b7 : Hid (Below w.heap.size w w7) := b6.out.trans (grown_below hx7.gr hxw.out b6.out.size)
              go_wp2
              go_roundw
              case rel => exact nextb R2.out X2.out hlt hr hx7 b7.out
              case measure => simp [intOf]; omega
            · have d0 : (o.kind == 0) = false := by simpa using k0
              have d1 : (o.kind == 1) = false := by simpa using k1
              have d2 : (o.kind == 2) = false := by simpa using k2
              clear k2 k1 k0
              go_wp2_with fail
              refine (rend_any r wr s R2.out).mono ?_
              rintro e w6 ⟨rfl, rfl⟩
              go_wp2_with fail
              refine (xend x wr s X2.out).mono ?_
              rintro e w6 ⟨rfl, rfl⟩
              go_wp2
              go_roundw
              case rel => exact ⟨k + 1, s, by go_num, hlt, R2.out, X2.out, b2.out⟩
              case measure => simp [intOf]; omega
      · go_wp2_with fail
        refine (told_any wr (ht.out.below b2.out)).mono ?_
        rintro e w8 ⟨rfl, hb8⟩
        have R8 := Lib.hid (R2.out.below hb8)
        have X8 := Lib.hid (X2.out.same (hb8.block x X2.out.lt))
        replace hb8 := Lib.hid hb8
        go_wp2_with fail
        refine (rend_any r w8 s R8.out).mono ?_
        rintro e w6 ⟨rfl, rfl⟩
        go_wp2_with fail
        refine (xend x w8 s X8.out).mono ?_
        rintro e w6 ⟨rfl, rfl⟩
        go_wp2
        go_ret
        exact ⟨rfl, b2.out.trans (hb8.out.mono b2.out.size)⟩
  · have st : Hid (LAt w r w.heap.size n (.int .i64 0) w2) := start2 n (by have := hl.out; omega) (Below.refl _ _) R1 b1
    have hrw : Hid (w.heap.size ≤ r) := by have h' := hr; simp at h'; show _ ≤ _; omega
    have hxw : Hid (w.heap.size ≤ w.heap.size) := Nat.le_refl _
    obtain ⟨x, hx⟩ : ∃ x, x = w.heap.size := ⟨_, rfl⟩
    have st' : Hid (LAt w r x n (.int .i64 0) w2) := by rw [hx]; exact st
    have hxw' : Hid (w.heap.size ≤ x) := by rw [hx]; exact hxw
    clear hr R1 b1 sx2 sx0 NW
    rw [← hx]
    replace hx := Lib.hid hx
    clear st hxw
    go_wp2_with fail
    go_loopw [7] (fun i wr => LAt w r x n i wr) (fun i _ => n - (intOf i).toNat)
    case atStart => exact st'.out
    case round =>
      obtain ⟨k, s, rfl, hk, R2, X2, b2⟩ := hrel
      replace R2 := Lib.hid R2
      replace X2 := Lib.hid X2
      replace b2 := Lib.hid b2
      by_cases hlt : k < n
      · obtain ⟨a, hLa, hab, hat⟩ := O.out.at_ (by omega)
        obtain ⟨o, ho⟩ : ∃ o, l[k]? = some o := ⟨_, List.getElem?_eq_getElem (by have := O.out.len; omega)⟩
        have at1 := (hat k o ho).same (b2.out.block _ hab)
        have q0 := at1.c0
        replace hat := Lib.hid hat
        replace ho := Lib.hid ho
        subst hLa
        clear at1
        by_cases k0 : o.kind = 0
        · rw [k0] at q0
          clear k0
          have SAT : Hid (∀ w', Below w.heap.size w w' → w'.cell? ⟨(a.add (k * 6)).block, (a.add (k * 6)).off + 3, none⟩ = some (.int .i64 o.lo) ∧ w'.cell? ⟨(a.add (k * 6)).block, (a.add (k * 6)).off + 4, none⟩ = some (.int .i64 o.hi) ∧ Below w.heap.size w w') := fun w' h => by
            have at6 := (hat.out k o ho.out).same (h.block _ hab)
            exact ⟨at6.c3, at6.c4, h⟩
          have s0 := SAT.out wr.drew b2.out.drew
          have QR : Hid (∀ w6, (w6 = wr.drew ∨ RxTo wr.drew x (rInt o.lo o.hi s).2 w6) → Calls Tryd.prog 19 #[.pointer (some ⟨r, 0, none⟩), .int .i64 o.lo, .int .i64 o.hi] w6 fun e w' => e = .returned (.int .i64 (rInt o.lo o.hi s).1) ∧ RdTo w6 r (rInt o.lo o.hi s).2 w') := fun w6 h => (rint_any r w6 s o.lo o.hi (rd_at R2.out X2.out w6 h))
          have QX : Hid (∀ w6, (w6 = wr.drew ∨ RdTo wr.drew r (rInt o.lo o.hi s).2 w6) → Calls Tryd.prog 20 #[.pointer (some ⟨x, 0, none⟩), .int .i64 o.lo, .int .i64 o.hi] w6 fun e w' => e = .returned (.int .i64 (rInt o.lo o.hi s).1) ∧ RxTo w6 x (rInt o.lo o.hi s).2 w') := fun w6 h => (xint x w6 s o.lo o.hi (rx_at R2.out X2.out w6 h))
          go_wp2_with fail
          go_region_held3 (fun w' => w'.cell? ⟨(a.add (k * 6)).block, (a.add (k * 6)).off + 3, none⟩ = some (.int .i64 o.lo) ∧ w'.cell? ⟨(a.add (k * 6)).block, (a.add (k * 6)).off + 4, none⟩ = some (.int .i64 o.hi) ∧ Below w.heap.size w w') (first | assumption | exact s0 | go_keep)
            ((first
              | (go_at_call 19; refine (QR.out _ (by first | exact Or.inl rfl | exact Or.inr (by assumption))).mono ?_; rintro e w6 ⟨rfl, hr⟩; have sr := SAT.out _ (Below.trans (And.right (And.right (by assumption))) (grown_below hr.gr hrw.out (Below.size (And.right (And.right (by assumption)))))))
              | (go_at_call 20; refine (QX.out _ (by first | exact Or.inl rfl | exact Or.inr (by assumption))).mono ?_; rintro e w6 ⟨rfl, hx⟩; have sr := SAT.out _ (Below.trans (And.right (And.right (by assumption))) (grown_below hx.gr hxw'.out (Below.size (And.right (And.right (by assumption)))))))))
          all_goals
            go_wp2
            go_roundw
            case rel => first | exact next1 R2.out X2.out hlt (by assumption) (by assumption) (And.right (And.right (by assumption))) | exact next2 R2.out X2.out hlt (by assumption) (by assumption) (And.right (And.right (by assumption)))
            case measure => simp [intOf]; omega
        · by_cases k1 : o.kind = 1
          · rw [k1] at q0
            clear k1 k0
            have SAT : Hid (∀ w', Below w.heap.size w w' → w'.cell? ⟨(a.add (k * 6)).block, (a.add (k * 6)).off + 5, none⟩ = some (.int .i64 o.most) ∧ Below w.heap.size w w') := fun w' h => by
              have at6 := (hat.out k o ho.out).same (h.block _ hab)
              exact ⟨at6.c5, h⟩
            have s0 := SAT.out wr.drew b2.out.drew
            have QR : Hid (∀ w6, (w6 = wr.drew ∨ RxTo wr.drew x (rText o.most s).2 w6) → Calls Tryd.prog 21 #[.pointer (some ⟨r, 0, none⟩), .int .i64 o.most] w6 fun e w' => e = .returned (.string (str (rText o.most s).1)) ∧ RdTo w6 r (rText o.most s).2 w') := fun w6 h => (rtext_any r w6 s o.most (rd_at R2.out X2.out w6 h))
            have QX : Hid (∀ w6, (w6 = wr.drew ∨ RdTo wr.drew r (rText o.most s).2 w6) → Calls Tryd.prog 22 #[.pointer (some ⟨x, 0, none⟩), .int .i64 o.most] w6 fun e w' => e = .returned (.string (str (rText o.most s).1)) ∧ RxTo w6 x (rText o.most s).2 w') := fun w6 h => (xtext x w6 s o.most (rx_at R2.out X2.out w6 h))
            go_wp2_with fail
            go_region_held3 (fun w' => w'.cell? ⟨(a.add (k * 6)).block, (a.add (k * 6)).off + 5, none⟩ = some (.int .i64 o.most) ∧ Below w.heap.size w w') (first | assumption | exact s0 | go_keep)
              ((first
                | (go_at_call 21; refine (QR.out _ (by first | exact Or.inl rfl | exact Or.inr (by assumption))).mono ?_; rintro e w6 ⟨rfl, hr⟩; have sr := SAT.out _ (Below.trans (And.right (by assumption)) (grown_below hr.gr hrw.out (Below.size (And.right (by assumption))))))
                | (go_at_call 22; refine (QX.out _ (by first | exact Or.inl rfl | exact Or.inr (by assumption))).mono ?_; rintro e w6 ⟨rfl, hx⟩; have sr := SAT.out _ (Below.trans (And.right (by assumption)) (grown_below hx.gr hxw'.out (Below.size (And.right (by assumption))))))))
            all_goals
              go_wp2
              go_roundw
              case rel => first | exact next1 R2.out X2.out hlt (by assumption) (by assumption) (And.right (by assumption)) | exact next2 R2.out X2.out hlt (by assumption) (by assumption) (And.right (by assumption))
              case measure => simp [intOf]; omega
          · by_cases k2 : o.kind = 2
            · rw [k2] at q0
              clear k2 k1 k0
              go_wp2_with fail
              refine (rbyte_any r wr s R2.out).mono ?_
              rintro e w6 ⟨rfl, hr⟩
              have X6 := Lib.hid (rx_over R2.out X2.out hr)
              have b6 : Hid (Below w.heap.size w w6) := b2.out.trans (grown_below hr.gr hrw.out b2.out.size)
              go_wp2_with fail
              refine (xbyte x w6 s X6.out).mono ?_
              rintro e w7 ⟨rfl, hx7⟩
              have b7 : Hid (Below w.heap.size w w7) := b6.out.trans (grown_below hx7.gr hxw'.out b6.out.size)
              go_wp2
              go_roundw
              case rel => exact nextb R2.out X2.out hlt hr hx7 b7.out
              case measure => simp [intOf]; omega
            · have d0 : (o.kind == 0) = false := by simpa using k0
              have d1 : (o.kind == 1) = false := by simpa using k1
              have d2 : (o.kind == 2) = false := by simpa using k2
              clear k2 k1 k0
              go_wp2_with fail
              refine (rend_any r wr s R2.out).mono ?_
              rintro e w6 ⟨rfl, rfl⟩
              go_wp2_with fail
              refine (xend x wr s X2.out).mono ?_
              rintro e w6 ⟨rfl, rfl⟩
              go_wp2
              go_roundw
              case rel => exact ⟨k + 1, s, by go_num, hlt, R2.out, X2.out, b2.out⟩
              case measure => simp [intOf]; omega
      · go_wp2_with fail
        refine (told_any wr (ht.out.below b2.out)).mono ?_
        rintro e w8 ⟨rfl, hb8⟩
        have R8 := Lib.hid (R2.out.below hb8)
        have X8 := Lib.hid (X2.out.same (hb8.block x X2.out.lt))
        replace hb8 := Lib.hid hb8
        go_wp2_with fail
        refine (rend_any r w8 s R8.out).mono ?_
        rintro e w6 ⟨rfl, rfl⟩
        go_wp2_with fail
        refine (xend x w8 s X8.out).mono ?_
        rintro e w6 ⟨rfl, rfl⟩
        go_wp2
        go_ret
        exact ⟨rfl, b2.out.trans (hb8.out.mono b2.out.size)⟩

theorem walkd (v0 : Value) (a0 : List UInt8) {W : World} (w0 : Src W v0 a0) (v1 : Value) (A1 : Option Addr) (n1 c1 : Nat) (a1 : List OpR) (e1 : v1 = .slice A1 n1 c1) (_lc : n1 ≤ c1) (_uc : c1 ≤ 9223372036854775807) (w1 : Ops W W.heap.size A1 n1 a1) (W' : World) (hW : W' = W) (ht : Tab W') :
    Calls Tryd.prog 4 #[v0, v1] W' fun e w' => e = .returned (.bool true) ∧ Below W'.heap.size W' w' := by
  subst hW
  obtain ⟨A, m, c, rfl, hA, _, _, R⟩ := w0
  subst e1
  exact walk A m c a0 hA _ R A1 n1 c1 a1 w1 ht


/-! The row: every input, the listed variable as the condition has it. -/
set_option linter.unusedVariables false
set_option maxRecDepth 100000 in
theorem lifted (os : Os) (started : os.Started) (H : Type) (enc : TypeId × Value → H) :
    ReturnsInHanded {} Tryd.checked os 4 .any (fun w args => (Rows.packReadsSpec.pre enc Tryd.prog Tryd.f4 [] false w args ∧ laidMetH Tryd.prog laids w) ∧ sizedMet enc Tryd.prog Tryd.f4 (OpenSpec.ofChange Rows.packReadsSpec) false w args)
      (Rows.packReadsSpec.post enc Tryd.prog Tryd.f4 false true false false) := by
  refine returnsInHanded_of_change_and (C := Tryd.checked) (X := fun w _ => laidMetH Tryd.prog laids w) (fun _ _ _ hh h => h.of_heap hh) own started (by kernel_rfl) Tryd.func4
    (ChangeSpec.witness_shaped (enc := enc) (C := Tryd.checked) (os := os) (X := fun w _ => laidMetH Tryd.prog laids w) false (World.doorLaid Tryd.prog 400 os) #[.slice none 0 0, .slice none 0 0] 8 rfl (World.shaped_of_RefB (by kernel_rfl) (by kernel_rfl)) (by kernel_rfl) (by kernel_rfl) (by kernel_rfl) (door_met os _)) ?_
  intro W base args ds gs before hval0 hW _ _ hL _
  have hval : ∀ (j : Nat) t v, Tryd.f4.params[j]? = some t → args[j]? = some v → Value.okWide Tryd.prog W .any base t v := hval0
  have hW' := hW
  obtain ⟨p, q, hA0, hV, rfl, hfz, hnd⟩ := hW
  have hA : DataW.TrodAll enc Tryd.prog W 0 (fun _ => true) true Tryd.f4.params.toList args.toList ds p := hA0
  rw [Tryd.params4] at hA hval
  obtain ⟨v0, vs0, d0, ds0, p0, q0, hargs, rfl, rfl, h0, r0⟩ := trodAll_cons hA
  obtain ⟨v1, vs1, d1, ds1, p1, q1, rfl, rfl, rfl, h1, r1⟩ := trodAll_cons r0
  obtain ⟨rfl, rfl, rfl⟩ := trodAll_nil r1
  obtain rfl : args = #[v0, v1] := by cases args; simp_all
  obtain ⟨rfl, rfl⟩ := trodVars_none hV
  obtain ⟨a0, w0⟩ := view_bytes (hval 0 34 v0 rfl rfl) h0
  obtain ⟨A1, n1, c1, a1, e1, lc1, uc1, w1⟩ := view_ops (hval 1 22 v1 rfl rfl) h1
  clear hA0 hval0
  simp only [List.append_nil] at hW'
  refine (walkd v0 a0 w0 v1 A1 n1 c1 a1 e1 lc1 uc1 w1 W rfl (of_laid hL)).mono fun e W' ⟨he, hb⟩ => ?_
  subst he
  exact ⟨_, rfl, post_below (pa := p0 ++ (p1 ++ [])) (pv := []) hW' (fun _ _ _ => (trodAll_cons_mk (shut_bool Tryd.underlying4 _) trodAll_mk0)) (fun sp hsp => (trodAll_cons_mk (Trod_stays laidOut (by kernel_rfl) (of_decide_eq_true (by kernel_rfl)) h0 (fun x hx => hb.same (hW'.lt x (by simp [hx]))) (fun x hx => hsp x (by simp [hx]))) (trodAll_cons_mk (Trod_stays laidOut (by kernel_rfl) (of_decide_eq_true (by kernel_rfl)) h1 (fun x hx => hb.same (hW'.lt x (by simp [hx]))) (fun x hx => hsp x (by simp [hx]))) trodAll_mk0))) (fun _ _ => rfl) (by simp)
    hb (ok_one (by kernel_rfl) rfl (okWide_bool_mk Tryd.underlying4 _))⟩

theorem over : Rows.packReadsRow.holds Tryd.pinned (OpenSpec.ofChange Rows.packReadsSpec) :=
  OpenClaim.holds_of_wide 4 Tryd.f4 rfl rfl rfl rfl rfl rfl rfl ⟨rfl, rfl, rfl, rfl, rfl⟩ rfl rfl rfl rfl rfl (by kernel_rfl) Tryd.func4 (by kernel_rfl)
    (of_decide_eq_true (by kernel_rfl)) (by unfold Func.isWrapper; first | (rw [if_pos (by decide +kernel)]; kernel_rfl) | (rw [if_neg (by decide +kernel)]; exact ⟨rfl, rfl⟩))
    (fun os started H enc _ => lifted os started H enc)

/-- The tied card. -/
theorem proved : Rows.PackReadsCardSaid :=
  Claim7.holds_tied_plain_at .later [] [.data] true _ false
    over (fun _ h => by cases h) (by kernel_rfl) (fun _ h => by cases h) packReads_row_tie rfl ⟨rfl, rfl⟩ (by kernel_rfl) rfl
    (fun f fn hf hfn => by
      obtain rfl : f = 4 := Option.some.inj ((show Tryd.prog.funcNamed "sojourn/sojournlaw1.PackReads" = some 4 by kernel_rfl).symm.trans hf) |>.symm
      obtain rfl : fn = Tryd.f4 := (Option.some.inj (Tryd.func4.symm.trans hfn)).symm
      exact ⟨by kernel_rfl, fun j t ht => by
        rw [Tryd.params4] at ht
        have hm : t ∈ [34, 22] := by simpa using Array.mem_of_getElem? ht
        have hall : ([34, 22].all fun u => !Tryd.prog.wantsStandIn u) = true := by kernel_rfl
        exact (show Tryd.prog.wantsStandIn t = false by simpa using List.all_eq_true.1 hall t hm)⟩)
    (by kernel_rfl)
#print axioms proved
end Go.Proofs.YtfdgjdakaibifaaDoor.packReads
