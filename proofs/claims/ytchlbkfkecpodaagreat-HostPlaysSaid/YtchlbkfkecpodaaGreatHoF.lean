/- Bytes of a host. -/
import Derived.Test.YtchlbkfkecpodaaGreatHoD
import Derived.Test.YtchlbkfkecpodaaGreatStF
namespace Go.Proofs.YtchlbkfkecpodaaGreat
set_option maxRecDepth 100000
open Go.RowKit
open Go.Sort (grow)
open Go.Proofs.YtchlbkfkecpodaaGreat.Pk (one_at one_free one_set lt_some grown_set grown_trans below_grown grown_refl encI_len)
namespace Ho
open Wt (Opn mayOp)
open St (Kq grq Led dstp tick Bs cat RowB Gu ByTo)
open Tb (Tab ne0 cnt keys)
open Nd (kb)

def hbts (cap over : Int) (s : S) : Bs := St.bts cap over s.f 200 ++ Pk.encI (cnt s.g : Nat) ++ kb s.g (keys s.g)
set_option maxHeartbeats 1600000 in
theorem bytes_any (w : World) (h : Nat) (cap over : Int) (s : S) (fp : Nat → Prop) (H : Hst w h cap over s fp) :
    Calls Tryz.prog 13 #[.pointer (some ⟨h, 0, none⟩)] w (ByTo w (hbts cap over s)) := by
  have hd : Below w.heap.size w w.drew := ⟨rfl, rfl, rfl, Nat.le_refl _, fun _ _ => rfl⟩
  have LB : Hid (Calls Tryz.prog 31 #[.pointer (some ⟨h, 0, none⟩)] w.drew fun e w' => ∃ v, e = .returned v ∧ RowB w' w.heap.size v (St.bts cap over s.f 200) ∧ Below w.heap.size w w') := by
    obtain ⟨fl, L, _, _⟩ := (H.below hd).ledger
    refine (St.bytes_any w.drew h cap over s.f fl L).mono ?_
    rintro e w' ⟨v, rfl, h1, h2⟩
    exact ⟨v, rfl, h1, hd.trans h2⟩
  have AP : Hid (∀ w2 v2, RowB w2 w.heap.size v2 (St.bts cap over s.f 200) → Below w.heap.size w w2 → Calls Tryz.prog 30 #[.pointer (some ⟨h, 3, none⟩), v2] w2 (ByTo w (hbts cap over s))) := fun w2 v2 r2 b2 => by
    obtain ⟨ft, T, _, _⟩ := H.table
    have hl := St.bts_len H.ok.f (n := 200) (Nat.le_refl _)
    refine (Nd.append_any w2 w.heap.size h 3 s.g ft (T.below b2) T.size v2 _ r2 b2.size (by omega)).mono ?_
    rintro e w' ⟨v, rfl, r3, g3, s3⟩
    exact ⟨v, rfl, r3, b2.trans (g3.below b2.size)⟩
  generalize St.bts cap over s.f 200 = b0 at *
  generalize hbts cap over s = bf at *
  clear H hd
  go_enter Tryz.func13, Tryz.ntmps13
  go_upto_region 3 with fail
  go_region_with (first
    | (go_at_call 31; refine LB.out.mono ?_; rintro e w2 ⟨v2, rfl, r2, b2⟩; have AW := Lib.hid (AP.out w2 v2 r2 b2); clear r2 b2)
    | (go_at_call 30; refine AW.out.mono ?_; rintro e w3 ⟨v3, rfl, r3, b3⟩; have F : Hid (ByTo w bf (.returned v3) w3) := ⟨v3, rfl, r3, b3⟩; clear r3 b3))
  all_goals
    clear LB AP AW
    go_wp2
    go_ret
    exact F.out
end Ho
end Go.Proofs.YtchlbkfkecpodaaGreat
