/- appendInts of package noted: numbers behind bytes. -/
import Derived.Test.YtcgkjnofgpcbhaaStE
namespace Go.Proofs.Ytcgkjnofgpcbhaa
set_option maxRecDepth 100000
open Go.RowKit
open Go.Sort (grow)
open Go.Proofs.Ytcgkjnofgpcbhaa.Pk (one_at one_free one_set lt_some grown_set grown_trans below_grown grown_refl u8s enc zz zz_lt zz_pos enc_lo enc_hi enc_ne encI_len rb_one byte_hi byte_lo own_form wpList_append_b adr_block Rb)
namespace St


set_option maxHeartbeats 3200000 in
theorem nappend_any (base : Nat) (w : World) (v : Value) (bs : Bs) (ho : RowB w base v bs) (hB : base ≤ w.heap.size) (ad : Addr) (n : Nat) (zs : List Int) (hl : zs.length = n) (hs : Ns w ad zs) (hz : ∀ z ∈ zs, 0 ≤ z ∧ z ≤ 4000000000000000000) (hn : bs.length ≤ 100000) (hm : n ≤ 100) :
    Calls Try.prog 73 #[v, .slice (some ad) n n] w (ApTo base w (bs ++ cat zs)) := by
  have st : Hid (ApAt base w bs zs v (.int .i64 0) w) := ⟨0, rfl, Nat.zero_le _, by simpa [cat] using ho, Gu.refl _ _, hB⟩
  have hl' := Lib.hid hl
  have hs' := Lib.hid hs
  have hz' := Lib.hid hz
  replace hB := Lib.hid hB
  clear hl hs hz ho
  go_enter Try.func73, Try.ntmps73
  go_wp2
  go_loopw [0, 10] (fun v i wr => ApAt base w bs zs v i wr) (fun _ i _ => n - (intOf i).toNat)
  case atStart => exact st.out
  case round =>
    obtain ⟨w3, e3⟩ : ∃ x, x = wr := ⟨_, rfl⟩
    subst e3
    obtain ⟨k, rfl, hk, hrow, hgu, hbs⟩ := hrel
    replace hrow := Lib.hid hrow
    replace hgu := Lib.hid hgu
    replace hk := Lib.hid hk
    replace hbs := Lib.hid hbs
    by_cases hlt : k < n
    · obtain ⟨z, hzk⟩ : ∃ z, zs[k]? = some z := ⟨_, List.getElem?_eq_getElem (by have := hl'.out; omega)⟩
      have q := (hs'.out.gu hgu.out).at_ k z hzk
      obtain ⟨z0, z1⟩ := hz'.out z (List.mem_of_getElem? hzk)
      have hcl : (bs ++ cat (zs.take k)).length ≤ 110000 := by
        rw [List.length_append]
        have h1 := cat_len (zs.take k) (fun y hy => hz'.out y (List.mem_of_mem_take hy))
        have h2 : (zs.take k).length ≤ 100 := by rw [List.length_take]; have := hl'.out; omega
        omega
      have hel := encI_len z (by omega) (by omega)
      have hall : Hid (bs ++ cat (zs.take (k + 1)) = (bs ++ cat (zs.take k)) ++ Pk.encI z) := by show _ = _; rw [cat_snoc hzk, List.append_assoc]
      have st2 : Hid (InAt base w (bs ++ cat (zs.take (k + 1))) u0 (.int .u64 (z * 2)) w3) := by
        rw [zz_pos z0]
        exact ⟨zz z, _, rfl, zz_lt z (by omega) (by omega), hrow.out, hall.out.symm, hgu.out, hbs.out⟩
      have hAl : Hid ((bs ++ cat (zs.take (k + 1))).length ≤ 110010) := by show _ ≤ _; rw [hall.out, List.length_append]; omega
      have hk1 : Hid (k + 1 ≤ zs.length) := by have := hl'.out; show _ ≤ _; omega
      clear hzk hcl hel hrow hgu hbs hall
      go_wp2_with fail
      go_loopw [0, 7] (fun v u wr => InAt base w (bs ++ cat (zs.take (k + 1))) v u wr) (fun _ u _ => (intOf u).toNat)
      case atStart => exact st2.out
      case round =>
        clear st2
        obtain ⟨x, pre, rfl, hx, ho, hall, hg, hb⟩ := hrel
        obtain ⟨A, c, rfl⟩ := own_form ho
        have hpl : pre.length ≤ 110010 := by
          have h1 := hAl.out
          rw [← hall, List.length_append] at h1
          omega
        replace hx := Lib.hid hx
        replace ho := Lib.hid ho
        replace hall := Lib.hid hall
        replace hg := Lib.hid hg
        replace hb := Lib.hid hb
        have hnb : pre.length + 1 ≤ 140737488355328 := by omega
        by_cases hgt : 127 < x
        · have Rn : Hid _ := rb_one wr _ _ (byte_hi x)
          have On : Hid _ := ho.out.alloc (.cells #[.int .u8 (bits .or .u8 ((x : Int) % 256) 128)] 5)
          go_wp2_with (at_builtin; refine wpList_append_b _ rfl (.tmp 21) (.tmp 25) rfl base (.slice A pre.length c) pre.length pre rfl On.out rfl Rn.out hnb (by have := hb.out; simp; omega) ?_; intro v6 w6 hown6 hg6 _; have st6 : Hid (InAt base w (bs ++ cat (zs.take (k + 1))) v6 (.int .u64 ((x : Int) / 128)) w6) := in_next hgt hx.out hall.out hg.out hb.out ho.out hown6 hg6; clear hown6 hg6)
          go_roundw
          case rel => exact st6.out
          case measure => simp [intOf]; omega
        · have Rn : Hid _ := rb_one wr _ _ (byte_lo x (by omega))
          have On : Hid _ := ho.out.alloc (.cells #[.int .u8 (x : Int)] 5)
          have hfin : Hid (pre ++ [UInt8.ofNat x] = bs ++ cat (zs.take (k + 1))) := by have := hall.out; rw [enc_lo (by omega)] at this; exact this
          go_wp2_with (at_builtin; refine wpList_append_b _ rfl (.tmp 27) (.tmp 30) rfl base (.slice A pre.length c) pre.length pre rfl On.out rfl Rn.out hnb (by have := hb.out; simp; omega) ?_; intro v6 w6 hown6 hg6 _; have st6 : Hid (ApAt base w bs zs v6 (.int .i64 ((k + 1 : Nat) : Int)) w6) := ⟨k + 1, rfl, hk1.out, by rw [← hfin.out]; unfold RowB; rw [List.length_append]; exact hown6, hg.out.trans (Gu.of_row ((World.grownBy_alloc _ _ _).trans hg6) ho.out), by have := hg6.size; simp at this; have := hb.out; omega⟩; clear hown6 hg6)
          go_roundw
          case rel => exact st6.out
          case measure => simp [intOf]; omega
    · have F : Hid (ApTo base w (bs ++ cat zs) (.returned u0) w3) := by
        have h2 : zs.take k = zs := List.take_of_length_le (by have := hl'.out; omega)
        have h1 := hrow.out
        rw [h2] at h1
        exact ⟨u0, rfl, h1, hgu.out, hbs.out⟩
      go_wp2
      go_ret
      exact F.out
end St
end Go.Proofs.Ytcgkjnofgpcbhaa
