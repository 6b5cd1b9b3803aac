/- appendInts of package noted: numbers behind bytes. -/
import Derived.Test.YtchlbkfkecpodaaGreatStE
namespace Go.Proofs.YtchlbkfkecpodaaGreat
set_option maxRecDepth 100000
open Go.RowKit
open Go.Sort (grow)
open Go.Proofs.YtchlbkfkecpodaaGreat.Pk (one_at one_free one_set lt_some grown_set grown_trans below_grown grown_refl u8s enc zz zz_lt zz_pos enc_lo enc_hi enc_ne encI_len rb_one byte_hi byte_lo own_form wpList_append_b adr_block Rb)
namespace St


theorem nappend_any (base : Nat) (w : World) (v : Value) (bs : Bs) (ho : RowB w base v bs) (hB : base ≤ w.heap.size) (ad : Addr) (n : Nat) (zs : List Int) (hl : zs.length = n) (hs : Ns w ad zs) (hz : ∀ z ∈ zs, 0 ≤ z ∧ z ≤ 4000000000000000000) (hn : bs.length ≤ 100000) (hm : n ≤ 100) :
    Calls Tryz.prog 53 #[v, .slice (some ad) n n] w (ApTo base w (bs ++ cat zs)) :=
  (In.append_any base w v bs ho hB ad n zs hl ⟨hs.lt, .inr hs.blk, hs.at_⟩ hz hn hm).mono fun _ _ ⟨x, he, hr, hg, hb⟩ => ⟨x, he, hr, ⟨hg.os, hg.tape, hg.output, hg.size, hg.block⟩, hb⟩
end St
end Go.Proofs.YtchlbkfkecpodaaGreat
