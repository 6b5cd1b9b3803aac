/- Parts of the claim: HoD, HoF -/
import Derived.Test.YtpkdigegkemogaaGreatDoorHoCT
import Derived.Test.YtpkdigegkemogaaGreatDoorNoXT
import Derived.Test.YtpkdigegkemogaaGreatDoorSoXT
namespace Go.Proofs.YtpkdigegkemogaaGreatDoor
set_option maxRecDepth 100000
open Go.RowKit
open Go.Sort (grow)
open Go.Proofs.YtpkdigegkemogaaGreatDoor.Pk (one_at one_free one_set lt_some grown_set grown_trans grown_refl)
namespace Ho
open Wt (Opn mayOp)
open St (Kq grq Led Kt dstp tick swF swL RowI ivs)
open Tb (Tab Kz ne0 cnt)

def SwTo (w : World) (h : Nat) (cap over : Int) (fp : Nat → Prop) (l : List Int) (s : S) (e : Ending) (w' : World) : Prop := ∃ v, e = .returned v ∧ RowI w' w.heap.size v l.length (ivs l) ∧ HTo w h cap over fp s w'
theorem sweep_any (w : World) (h : Nat) (cap over : Int) (s : S) (fp : Nat → Prop) (now : Int) (H : Hst w h cap over s fp) :
    Calls Tryz.prog 61 #[.pointer (some ⟨h, 0, none⟩), .int .i64 now] w (SwTo w h cap over fp (swL s.f now) ⟨swF s.f now, s.g⟩) := by
  have SW : Hid (Calls Tryz.prog 91 #[.pointer (some ⟨h, 0, none⟩), .int .i64 now] w (SwTo w h cap over fp (swL s.f now) ⟨swF s.f now, s.g⟩)) := by
    obtain ⟨fl, L, _, GO⟩ := H.ledger
    refine (St.sweep_any w h cap over s.f fl L now).mono ?_
    rintro e w' ⟨v, rfl, hr, h1⟩
    exact ⟨v, rfl, hr, GO _ _ h1⟩
  generalize swL s.f now = l at *
  generalize (⟨swF s.f now, s.g⟩ : S) = s' at *
  clear H
  go_enter Tryz.func61, Tryz.ntmps61
  go_wp2_with fail
  refine SW.out.mono ?_
  rintro e w1 ⟨v, rfl, h1⟩
  have E : Hid (SwTo w h cap over fp l s' (.returned v) w1) := ⟨v, rfl, h1⟩
  clear SW h1
  go_wp2
  go_ret
  exact E.out
theorem stock_any (w : World) (h : Nat) (cap over : Int) (s : S) (fp : Nat → Prop) (H : Hst w h cap over s fp) :
    Calls Tryz.prog 58 #[.pointer (some ⟨h, 0, none⟩)] w (St.CpTo w cap over s.f) := by
  have CP : Hid (Calls Tryz.prog 83 #[.pointer (some ⟨h, 0, none⟩)] w (St.CpTo w cap over s.f)) := by
    obtain ⟨fl, L, _, _⟩ := H.ledger
    exact St.copy_any w h cap over s.f fl L
  generalize s.f = f at *
  clear H
  go_enter Tryz.func58, Tryz.ntmps58
  go_wp2_with fail
  refine CP.out.mono ?_
  rintro e w1 ⟨q, fp', rfl, h1⟩
  have E : Hid (St.CpTo w cap over f (.returned (.pointer (some ⟨q, 0, none⟩))) w1) := ⟨q, fp', rfl, h1⟩
  clear CP h1
  go_wp2
  go_ret
  exact E.out
end Ho
end Go.Proofs.YtpkdigegkemogaaGreatDoor
namespace Go.Proofs.YtpkdigegkemogaaGreatDoor
set_option maxRecDepth 100000
open Go.RowKit
open Go.Sort (grow)
open Go.Proofs.YtpkdigegkemogaaGreatDoor.Pk (one_at one_free one_set lt_some grown_set grown_trans grown_refl encI_len)
namespace Ho
open Wt (Opn mayOp)
open St (Kq grq Led dstp tick Bs cat RowB Gu ByTo)
open Tb (Tab ne0 cnt keys)
open Nd (kb)

def hbts (cap over : Int) (s : S) : Bs := St.bts cap over s.f 200 ++ Pk.encI (cnt s.g : Nat) ++ kb s.g (keys s.g)
set_option maxHeartbeats 1600000 in
theorem bytes_any (w : World) (h : Nat) (cap over : Int) (s : S) (fp : Nat → Prop) (H : Hst w h cap over s fp) :
    Calls Tryz.prog 234 #[.pointer (some ⟨h, 0, none⟩)] w (ByTo w (hbts cap over s)) := by
  have hd : Below w.heap.size w w.drew := ⟨rfl, rfl, rfl, Nat.le_refl _, fun _ _ => rfl⟩
  have LB : Hid (Calls Tryz.prog 224 #[.pointer (some ⟨h, 0, none⟩)] w.drew fun e w' => ∃ v, e = .returned v ∧ RowB w' w.heap.size v (St.bts cap over s.f 200) ∧ Below w.heap.size w w') := by
    obtain ⟨fl, L, _, _⟩ := (H.below hd).ledger
    refine (St.bytes_any w.drew h cap over s.f fl L).mono ?_
    rintro e w' ⟨v, rfl, h1, h2⟩
    exact ⟨v, rfl, h1, hd.trans h2⟩
  have AP : Hid (∀ w2 v2, RowB w2 w.heap.size v2 (St.bts cap over s.f 200) → Below w.heap.size w w2 → Calls Tryz.prog 235 #[.pointer (some ⟨h, 3, none⟩), v2] w2 (ByTo w (hbts cap over s))) := fun w2 v2 r2 b2 => by
    obtain ⟨ft, T, _, _⟩ := H.table
    have hl := St.bts_len H.ok.f (n := 200) (Nat.le_refl _)
    refine (Nd.append_any w2 w.heap.size h 3 s.g ft (T.below b2) T.size v2 _ r2 b2.size (by omega)).mono ?_
    rintro e w' ⟨v, rfl, r3, g3, s3⟩
    exact ⟨v, rfl, r3, b2.trans (g3.below b2.size)⟩
  generalize St.bts cap over s.f 200 = b0 at *
  generalize hbts cap over s = bf at *
  clear H hd
  go_enter Tryz.func234, Tryz.ntmps234
  go_upto_region 3 with fail
  go_region_with (first
    | (go_at_call 224; refine LB.out.mono ?_; rintro e w2 ⟨v2, rfl, r2, b2⟩; have AW := Lib.hid (AP.out w2 v2 r2 b2); clear r2 b2)
    | (go_at_call 235; refine AW.out.mono ?_; rintro e w3 ⟨v3, rfl, r3, b3⟩; have F : Hid (ByTo w bf (.returned v3) w3) := ⟨v3, rfl, r3, b3⟩; clear r3 b3))
  all_goals
    clear LB AP AW
    go_wp2
    go_ret
    exact F.out
end Ho
end Go.Proofs.YtpkdigegkemogaaGreatDoor
