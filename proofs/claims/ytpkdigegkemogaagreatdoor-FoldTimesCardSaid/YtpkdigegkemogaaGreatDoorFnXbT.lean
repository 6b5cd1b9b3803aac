/- Parts of the claim: FkI, FnS, FnI, FnK -/
import Derived.Shelf.SlIterI.Nil
import Derived.Test.YtpkdigegkemogaaGreatDoorSnXT
import Derived.Test.YtpkdigegkemogaaGreatDoorSmXT
import Derived.Test.YtpkdigegkemogaaGreatDoorSoXT
import Derived.Test.YtpkdigegkemogaaGreatDoorSgXbT
import Derived.Test.YtpkdigegkemogaaGreatDoorSgXaT
import Derived.Test.YtpkdigegkemogaaGreatDoorInAT
import Derived.Test.YtpkdigegkemogaaGreatDoorSgQXbT
namespace Go.Proofs
open Go.RowKit Go.Maps Go.Sort Go.Shelf
def Tryz.keys73_ren : Go.Shelf.Ren := ⟨fun | 7 => 73 | 10 => 113 | n => n, fun | 23 => 92 | 26 => 3 | 3 => 57 | 28 => 145 | 0 => 0 | 27 => 144 | 33 => 84 | 4 => 4 | n => n, fun | n => n⟩
theorem Tryz.keys73 : Go.Proofs.SlLaysZI.n7 Tryz.prog Tryz.keys73_ren := {
  mixed := by kernel_rfl
  f7 := ⟨Tryz.f73.name, by decide, Tryz.func73.trans (congrArg some (by kernel_rfl))⟩
  f10 := ⟨Tryz.f113.name, by decide, Tryz.func113.trans (congrArg some (by kernel_rfl))⟩
  t0 := Tryz.underlying0
  a0 := Tryz.isAgg0
  z0 := Tryz.sizeOf0
  v0 := Tryz.zeroValue0
  t4 := Tryz.underlying4
  a4 := Tryz.isAgg4
  z4 := Tryz.sizeOf4
  v4 := Tryz.zeroValue4
  t23 := Tryz.underlying92
  a23 := Tryz.isAgg92
  z23 := Tryz.sizeOf92
  v23 := Tryz.zeroValue92
  t26 := Tryz.underlying3
  a26 := Tryz.isAgg3
  z26 := Tryz.sizeOf3
  v26 := Tryz.zeroValue3
  t27 := Tryz.underlying144
  a27 := Tryz.isAgg144
  z27 := Tryz.sizeOf144
  v27 := Tryz.zeroValue144
  t28 := Tryz.underlying145
  a28 := Tryz.isAgg145
  z28 := Tryz.sizeOf145
  v28 := Tryz.zeroValue145
  t33 := Tryz.underlying84
  a33 := Tryz.isAgg84
  z33 := Tryz.sizeOf84
  v33 := Tryz.zeroValue84 }
def Tryz.sorted72_ren : Go.Shelf.Ren := ⟨fun | 6 => 72 | 8 => 111 | 9 => 112 | 11 => 135 | n => n, fun | 26 => 3 | 28 => 145 | 24 => 22 | 0 => 0 | 33 => 84 | n => n, fun | n => n⟩
theorem Tryz.sorted72 : Go.Proofs.SlLaysZI.n6 Tryz.prog Tryz.sorted72_ren := {
  mixed := by kernel_rfl
  f6 := ⟨Tryz.f72.name, by decide, Tryz.func72.trans (congrArg some (by kernel_rfl))⟩
  f8 := ⟨Tryz.f111.name, by decide, Tryz.func111.trans (congrArg some (by kernel_rfl))⟩
  f11 := ⟨Tryz.f135.name, by decide, Tryz.func135.trans (congrArg some (by kernel_rfl))⟩
  t0 := Tryz.underlying0
  a0 := Tryz.isAgg0
  z0 := Tryz.sizeOf0
  v0 := Tryz.zeroValue0
  t24 := Tryz.underlying22
  a24 := Tryz.isAgg22
  z24 := Tryz.sizeOf22
  v24 := Tryz.zeroValue22
  t26 := Tryz.underlying3
  a26 := Tryz.isAgg3
  z26 := Tryz.sizeOf3
  v26 := Tryz.zeroValue3
  t28 := Tryz.underlying145
  a28 := Tryz.isAgg145
  z28 := Tryz.sizeOf145
  v28 := Tryz.zeroValue145
  i26 := by kernel_rfl }
theorem Tryz.sorts72 (m : Nat) : AnyZI.SortsIn Tryz.prog Tryz.sorted72_ren Fence.wide m :=
  ⟨fun blk off cap ss W hH hblk hsz => callsIn_wide.2 (AnyM.slices_Sort_int Tryz.stsort blk off cap ss W hH hblk hsz),
   fun p cap W => callsIn_wide.2 (AnyM.slices_Sort_int_none Tryz.stsort p cap W)⟩

theorem Tryz.maps_Keys_73 (mb : Option Nat) (W : World) : CallsIn Fence.wide 5 Tryz.prog 73 #[.map mb] W fun e w' => e = .returned (.func (.func 113) #[] #[.pointer (some ⟨W.heap.size, 0, none⟩)]) ∧ w' = W.alloc (.cells #[.map mb] 92) :=
  AnyZI.keys_in Tryz.keys73 Fence.wide 5 trivial rfl mb W

set_option maxHeartbeats 1000000 in
theorem Tryz.slices_Sorted_keys_72_73 {H : Type} (b nn : Nat) (D0 : DataW H) (R : Value → Option (DataW H × List MemPlace)) (w : World) (hown : w.ownsMap Tryz.prog 3 R b nn D0) (hmax : Maps.size D0 ≤ maxLen) (hbytes : Maps.size D0 * 8 ≤ 140737488355328) :
    CallsIn Fence.wide 5 Tryz.prog 72 #[.func (.func 113) #[] #[.pointer (some ⟨w.heap.size, 0, none⟩)]] (w.alloc (.cells #[.map (some b)] 92)) fun e w' => ∃ (v : Value) (ss : List Int), e = .returned v ∧ ss.Perm (intKeys D0) ∧
      w'.ownsRow (w.alloc (.cells #[.map (some b)] 92)).heap.size 3 1 v ss.length ((ss.mergeSort (fun x y => decide (x ≤ y))).map encZ) ∧ (v = .slice none 0 0 ↔ ss = []) ∧ Below (w.alloc (.cells #[.map (some b)] 92)).heap.size (w.alloc (.cells #[.map (some b)] 92)) w' := by
  have hbl := hown.lt
  have hseq : SeqGives Fence.wide 2 Tryz.prog 113 #[.pointer (some ⟨w.heap.size, 0, none⟩)] encZ (fun ss => ss.Perm (intKeys D0)) (Maps.size D0) (w.alloc (.cells #[.map (some b)] 92)) :=
    AnyZI.keys_gives (ρ := Tryz.keys73_ren) { Tryz.keys73 with } Fence.wide _ trivial rfl (by omega) w.heap.size b nn D0 _ (by simp) (by simp) (by
      obtain ⟨es, clock, hb, Ft, hs, hD⟩ := hown
      exact ⟨es, clock, (Below.heap_alloc _ _ b hbl).trans hb, Ft, hs, hD⟩)
  exact AnyZI.sorted_in Tryz.sorted72 Fence.wide 5 trivial trivial trivial trivial rfl (by omega) (Tryz.sorts72 _) (enters_of Tryz.func112 (by kernel_rfl) rfl) 113 #[.pointer (some ⟨w.heap.size, 0, none⟩)] trivial (enters_of Tryz.func113 (by kernel_rfl) rfl) _ _ hmax hbytes _ hseq

set_option maxHeartbeats 1000000 in
theorem Tryz.slices_Sorted_keys_nil_72_73 (w : World) :
    CallsIn Fence.wide 5 Tryz.prog 72 #[.func (.func 113) #[] #[.pointer (some ⟨w.heap.size, 0, none⟩)]] (w.alloc (.cells #[.map none] 92)) fun e w' => ∃ (v : Value) (ss : List Int), e = .returned v ∧ ss = [] ∧
      w'.ownsRow (w.alloc (.cells #[.map none] 92)).heap.size 3 1 v ss.length ((ss.mergeSort (fun x y => decide (x ≤ y))).map encZ) ∧ (v = .slice none 0 0 ↔ ss = []) ∧ Below (w.alloc (.cells #[.map none] 92)).heap.size (w.alloc (.cells #[.map none] 92)) w' := by
  have hseq : SeqGives Fence.wide 2 Tryz.prog 113 #[.pointer (some ⟨w.heap.size, 0, none⟩)] encZ (fun ss : List Int => ss = []) 0 (w.alloc (.cells #[.map none] 92)) :=
    AnyZI.keys_gives_nil (ρ := Tryz.keys73_ren) { Tryz.keys73 with } Fence.wide _ trivial rfl w.heap.size _ (by simp) (by simp)
  exact AnyZI.sorted_in Tryz.sorted72 Fence.wide 5 trivial trivial trivial trivial rfl (by omega) (Tryz.sorts72 _) (enters_of Tryz.func112 (by kernel_rfl) rfl) 113 #[.pointer (some ⟨w.heap.size, 0, none⟩)] trivial (enters_of Tryz.func113 (by kernel_rfl) rfl) _ 0 (Nat.zero_le _) (by omega) _ hseq


end Go.Proofs
namespace Go.Proofs.YtpkdigegkemogaaGreatDoor
set_option maxRecDepth 100000
open Go.RowKit
open Go.Proofs.YtpkdigegkemogaaGreatDoor.Pk (lt_some)
namespace Fs
open Sg (Sag sz smay sgv sgc)
open Sb (sput sput_len)
open St (Rdv lk law wf_of key_of lit_key lk_ne lk_same Bd owns_keep map_block ne_map E ez pre sel sel_rise mem_sel sel_len sort_is)

abbrev F := Int → Option Sag
def fz : F := fun _ => none
def upd (f : F) (b : Int) (s : Sag) : F := fun k => if k = b then some s else f k
def shp (f : F) : St.F := fun k => if (f k).isSome then ⟨1, 0, 0⟩ else ez
def keys (f : F) : List Int := sel pre (shp f) 200
def get (f : F) (k : Int) : Sag := (f k).getD sz
def many (f : F) (l : List Int) : List UInt8 := l.flatMap fun k => Pk.encT (sput (get f k))
def bts (f : F) : List UInt8 := many f (keys f)
structure Ok (f : F) : Prop where
  inn : ∀ k s, f k = some s → 1 ≤ k ∧ k ≤ 200 ∧ smay s = true
section
variable {f : F} {k b : Int} {s : Sag}
theorem upd_same (f : F) (b : Int) (s : Sag) : upd f b s b = some s := by simp [upd]
theorem upd_other (h : k ≠ b) : upd f b s k = f k := by simp [upd, h]
theorem ok_z : Ok fz := ⟨fun k s h => by cases h⟩
theorem Ok.upd (h : Ok f) (h1 : 1 ≤ b) (h2 : b ≤ 200) (hs : smay s = true) : Ok (upd f b s) := ⟨fun k t e => by
  by_cases hk : k = b
  · subst hk
    rw [upd_same] at e
    injection e with e
    exact ⟨h1, h2, e ▸ hs⟩
  · rw [upd_other hk] at e
    exact h.inn k t e⟩
theorem pre_shp (f : F) (k : Int) : pre (shp f k) = (f k).isSome := by
  unfold shp
  cases h : (f k).isSome
  · simp [pre, ez]
  · simp [pre]
theorem shp_upd (f : F) (b : Int) (s : Sag) : shp (upd f b s) = St.upd (shp f) b ⟨1, 0, 0⟩ := by
  funext k
  unfold shp upd St.upd
  by_cases h : k = b
  · simp [h]
  · simp [h]
theorem mem_keys (h : Ok f) : k ∈ keys f ↔ (f k).isSome = true := by
  unfold keys
  rw [mem_sel, pre_shp]
  constructor
  · exact fun e => e.2
  · intro e
    obtain ⟨s, hs⟩ := Option.isSome_iff_exists.1 e
    have := h.inn k s hs
    exact ⟨⟨this.1, this.2.1⟩, e⟩
theorem keys_rise (f : F) : (keys f).Pairwise (· < ·) := sel_rise pre (shp f) 200
theorem keys_len (f : F) : (keys f).length ≤ 200 := sel_len pre (shp f) 200
theorem get_may (h : Ok f) (hk : k ∈ keys f) : ∃ s, f k = some s ∧ get f k = s ∧ smay s = true ∧ 1 ≤ k ∧ k ≤ 200 := by
  obtain ⟨s, hs⟩ := Option.isSome_iff_exists.1 ((mem_keys h).1 hk)
  have := h.inn k s hs
  exact ⟨s, hs, by unfold get; rw [hs]; rfl, this.2.2, this.1, this.2.1⟩
theorem many_take {l : List Int} {j : Nat} {z : Int} (h : l[j]? = some z) : many f (l.take (j + 1)) = many f (l.take j) ++ Pk.encT (sput (get f z)) := by
  obtain ⟨hl, rfl⟩ := List.getElem?_eq_some_iff.1 h
  rw [List.take_succ_eq_append_getElem hl]
  simp only [many, List.flatMap_append, List.flatMap_cons, List.flatMap_nil, List.append_nil]
theorem many_len (h : Ok f) : ∀ (l : List Int), (∀ k ∈ l, k ∈ keys f) → (many f l).length ≤ 120 * l.length
  | [], _ => Nat.zero_le _
  | k :: l, hl => by
    have h1 := many_len h l fun x hx => hl x (List.mem_cons_of_mem _ hx)
    obtain ⟨s, _, e, hs, _⟩ := get_may h (hl k List.mem_cons_self)
    have h2 := sput_len hs
    have h3 := Pk.encI_len ((sput s).length : Nat) (by omega) (by omega)
    have e2 : many f (k :: l) = Pk.encT (sput s) ++ many f l := by rw [← e]; rfl
    rw [e2]
    unfold Pk.encT
    simp only [List.length_append, List.length_cons]
    omega
end
structure Tie (D : DataW Value) (f : F) : Prop where
  tidy : Maps.Tidy D
  has : ∀ k : Int, Maps.has D (lk k) = (f k).isSome
  at_ : ∀ k s, f k = some s → ∀ z, D.atKey (lk k) z = .held (sgv s)
  size : (Maps.size D : Int) = St.cnt (shp f)
theorem shp_z : shp fz = St.fz := rfl
theorem Tie.start : Tie (.map [] : DataW Value) fz := ⟨Maps.tidy_empty, fun k => by simp [Maps.has_eq, fz], fun k s h => (by cases h), (by rw [shp_z, St.cnt_z]; rfl)⟩
theorem Tie.few {D : DataW Value} {f : F} (T : Tie D f) : Maps.size D ≤ 200 := by
  have := T.size
  have := St.cnt_le (shp f)
  omega
theorem Tie.put {D : DataW Value} {f : F} {b : Int} {s : Sag} (T : Tie D f) (h1 : 1 ≤ b) (h2 : b ≤ 200) : Tie (D.put (lk b) (.held (sgv s))) (upd f b s) := by
  have hb : Bd b := ⟨by omega, by omega⟩
  refine ⟨T.tidy.put (lit_key hb) _, fun k => ?_, fun k t hk z => ?_, ?_⟩
  · by_cases h : k = b
    · subst h
      rw [Maps.has_put_same T.tidy.isMap (lit_key hb), upd_same]
      rfl
    · rw [Maps.has_put_other (lk_ne h), upd_other h, T.has]
  · by_cases h : k = b
    · subst h
      rw [upd_same] at hk
      injection hk with hk
      rw [Maps.atKey_put_same T.tidy.isMap (lit_key hb), hk]
    · rw [upd_other h] at hk
      rw [Maps.atKey_put_other (lk_ne h), T.at_ k t hk]
  · rw [Maps.size_put T.tidy, shp_upd, St.cnt_upd _ _ h1 h2, T.has, if_neg (show ¬((⟨1, 0, 0⟩ : E).st = 0) by decide)]
    have := T.size
    have e : (shp f b).st = if (f b).isSome then 1 else 0 := by unfold shp; split <;> rfl
    rw [e]
    cases (f b).isSome
    · simp; omega
    · simp; omega
theorem Tie.look {D : DataW Value} {f : F} (T : Tie D f) (k : Int) : D.atKey (lk k) (.held (sgv sz)) = .held (sgv (get f k)) := by
  unfold get
  cases h : f k with
  | none => exact Maps.atKey_of_not_has (by rw [T.has, h]; rfl) _
  | some s => exact T.at_ k s h _
def Map (w : World) (m : Nat) (f : F) : Prop := ∃ D, w.ownsMap Tryz.prog 3 Rdv m 200 D ∧ Tie D f
theorem owns_less {w : World} {m n : Nat} {D : DataW Value} {f : F} (h : w.ownsMap Tryz.prog 3 Rdv m n D) (T : Tie D f) : w.ownsMap Tryz.prog 3 Rdv m 200 D := by
  have hf := T.few
  obtain ⟨es, clock, hb, F, _, hD⟩ := h
  refine ⟨es, clock, hb, F, ?_, hD⟩
  rw [hD] at hf
  simp [Maps.size, length_sorted] at hf
  exact hf
section
variable {w w' : World} {m : Nat} {f : F}
theorem Map.keep (h : Map w m f) (hk : w'.heap[m]? = w.heap[m]?) : Map w' m f := by
  obtain ⟨D, h1, T⟩ := h
  exact ⟨D, owns_keep h1 hk, T⟩
theorem Map.lt (h : Map w m f) : m < w.heap.size := by
  obtain ⟨D, h1, _⟩ := h
  exact h1.lt
theorem Map.below (h : Map w m f) (hb : Below w.heap.size w w') : Map w' m f := h.keep (hb.block m h.lt)
theorem Map.drew (h : Map w m f) : Map w.drew m f := h.keep rfl
theorem Map.made (w : World) : Map (w.alloc (.map #[] 0)) w.heap.size fz := ⟨_, (World.ownsMap_made w Tryz.prog 3 Rdv).mono (Nat.zero_le _), Tie.start⟩
theorem zero_saga (w : World) : (zeroValue 57).run Tryz.prog w = .ok (sgv sz) w := by kernel_rfl
theorem Map.look (h : Map w m f) {k : Int} (hk : Bd k) : (Instr.lookup 92 (.map (some m)) (.int .i64 k) false).run Tryz.prog w = .ok (sgv (get f k)) w := by
  obtain ⟨D, h1, T⟩ := h
  obtain ⟨v, ps, hrun, hv⟩ := h1.lookup law Tryz.underlying92 (zero_saga w) (zd := .held (sgv sz)) (zp := []) rfl (key_of hk)
  rw [T.look k] at hv
  injection hv with hv
  injection hv with hv _
  injection hv with hv
  rw [hrun, hv]
theorem Map.look_ok (h : Map w m f) {k : Int} (hk : Bd k) : (Instr.lookup 92 (.map (some m)) (.int .i64 k) true).run Tryz.prog w = .ok (.tuple #[sgv (get f k), .bool (f k).isSome]) w := by
  obtain ⟨D, h1, T⟩ := h
  obtain ⟨v, ps, hrun, hv⟩ := h1.look_ok law Tryz.underlying92 (zero_saga w) (zd := .held (sgv sz)) (zp := []) rfl (key_of hk)
  rw [T.look k] at hv
  injection hv with hv
  injection hv with hv _
  injection hv with hv
  rw [hrun, hv, T.has]
theorem Map.put (h : Map w m f) {b : Int} (s : Sag) (h1 : 1 ≤ b) (h2 : b ≤ 200) : ∃ w', (Instr.mapUpdate 92 (.map (some m)) (.int .i64 b) (sgv s)).run Tryz.prog w = .ok () w' ∧ Map w' m (upd f b s) ∧ w.grownBy w' (some m) := by
  obtain ⟨D, h3, T⟩ := h
  obtain ⟨w4, hrun, hM4, g4⟩ := h3.update law Tryz.underlying92 (by unfold maxLen; omega) (key_of (k := b) ⟨by omega, by omega⟩) (val := sgv s) (d := .held (sgv s)) (ps := []) rfl
  have T4 := T.put (s := s) h1 h2
  exact ⟨w4, hrun, ⟨_, owns_less hM4 T4, T4⟩, g4⟩
end
theorem keys_perm {w : World} {m n : Nat} {D : DataW Value} {f : F} (h : w.ownsMap Tryz.prog 3 Rdv m n D) (T : Tie D f) (O : Ok f) {ss : List Int} (hp : ss.Perm (intKeys D)) : (ss.mergeSort fun x y => decide (x ≤ y)) = keys f := by
  have h2 : (keys f).Perm (intKeys D) := CollectedI.perm (left := fun _ => false) ⟨(keys_rise f).imp fun {a b} h => by omega, fun x => by rw [mem_keys O, ← T.has x]; simp [lk]⟩ h law Tryz.underlying3 fun _ => rfl
  have e := mergeSort_of_perm_i (hp.trans h2.symm)
  refine e.trans (List.mergeSort_of_pairwise ?_)
  exact (keys_rise f).imp fun {a b} h => by simp; omega
end Fs
end Go.Proofs.YtpkdigegkemogaaGreatDoor
namespace Go.Proofs.YtpkdigegkemogaaGreatDoor
set_option maxRecDepth 100000
open Go.RowKit
open Go.Proofs.YtpkdigegkemogaaGreatDoor.Pk (one_at one_free one_set lt_some grown_set grown_trans grown_refl u8s enc zz zz_lt zz_pos enc_lo enc_hi enc_ne encI_len rb_one byte_hi byte_lo own_form wpList_append_b adr_block Rb)
namespace Fi
open In (Bs cat cat_app cat_snoc cat_len RowB fold_any)

structure Gv (v : Value) (w w' : World) : Prop where
  os : w'.os = w.os
  tape : w'.tape = w.tape
  output : w'.output = w.output
  size : w.heap.size ≤ w'.heap.size
  block : ∀ g, g < w.heap.size → v.ownBlock ≠ some g → w'.heap[g]? = w.heap[g]?
def Own (v : Value) (w : World) (v' : Value) : Prop := ∀ g, v'.ownBlock = some g → v.ownBlock = some g ∨ w.heap.size ≤ g
section
variable {w w1 w2 : World} {v v' v6 : Value}
theorem Gv.refl (v : Value) (w : World) : Gv v w w := ⟨rfl, rfl, rfl, Nat.le_refl _, fun _ _ _ => rfl⟩
theorem Own.refl (v : Value) (w : World) : Own v w v := fun _ h => .inl h
theorem Gv.row (h : Gv v w w1) (o : Own v w v') (hg : w1.grownBy w2 v'.ownBlock) : Gv v w w2 :=
  ⟨hg.os.trans h.os, hg.tape.trans h.tape, hg.output.trans h.output, Nat.le_trans h.size hg.size, fun g hlt hn => (hg.block g (Nat.lt_of_lt_of_le hlt h.size) fun e => by
    rcases o g e.symm with e | e
    · exact hn e
    · omega).trans (h.block g hlt hn)⟩
theorem Own.row (h : Gv v w w1) (o : Own v w v') (ho : v6.ownBlock = v'.ownBlock ∨ v6.ownBlock = some (w1.heap.size + 1)) : Own v w v6 := fun g e => by
  rcases ho with ho | ho
  · exact o g (ho ▸ e)
  · rw [ho] at e
    injection e with e
    have := h.size
    exact .inr (by omega)
end
structure Ns (v : Value) (w : World) (ad : Addr) (zs : List Int) : Prop where
  lt : ad.block < w.heap.size
  blk : v.ownBlock ≠ some ad.block
  at_ : ∀ (j : Nat) (z : Int), zs[j]? = some z → w.cell? (ad.add j) = some (.int .i64 z)
theorem Ns.gu {w w' : World} {v : Value} {ad : Addr} {zs : List Int} (h : Ns v w ad zs) (k : Gv v w w') : Ns v w' ad zs :=
  ⟨Nat.lt_of_lt_of_le h.lt k.size, h.blk, fun j z hj => (World.cell?_of_block (by rw [adr_block]; exact k.block _ h.lt h.blk)).trans (h.at_ j z hj)⟩
def InAt (base : Nat) (v0 : Value) (w : World) (all : Bs) (v u : Value) (wr : World) : Prop :=
  ∃ (x : Nat) (pre : Bs), u = .int .u64 x ∧ x < 18446744073709551616 ∧ RowB wr base v pre ∧ pre ++ enc x = all ∧ (Gv v0 w wr ∧ Own v0 w v) ∧ base ≤ wr.heap.size
theorem in_next {base : Nat} {v0 : Value} {w wr w6 : World} {all pre : Bs} {x : Nat} {A : Option Addr} {c : Nat} {v6 : Value} {b : Int} (hx : 127 < x) (hx2 : x < 18446744073709551616) (hall : pre ++ enc x = all) (hb : Gv v0 w wr ∧ Own v0 w (.slice A pre.length c)) (hs : base ≤ wr.heap.size)
    (h6 : w6.ownsRow base 5 1 v6 (pre.length + 1) (u8s (pre ++ [UInt8.ofNat (x % 128 + 128)]))) (hg6 : (wr.alloc (.cells #[.int .u8 b] 5)).grownBy w6 (Value.slice A pre.length c).ownBlock)
    (ho6 : v6.ownBlock = (Value.slice A pre.length c).ownBlock ∨ v6.ownBlock = some (wr.alloc (.cells #[.int .u8 b] 5)).heap.size) :
    InAt base v0 w all v6 (.int .u64 ((x : Int) / 128)) w6 := by
  refine ⟨x / 128, pre ++ [UInt8.ofNat (x % 128 + 128)], by simp, by omega, by unfold RowB; rw [List.length_append]; exact h6, ?_, ⟨hb.1.row hb.2 ((World.grownBy_alloc _ _ _).trans hg6), hb.2.row hb.1 (by simpa using ho6)⟩, by have := hg6.size; simp at this; omega⟩
  have e := enc_hi (u := x) (by omega)
  rw [← hall, e, List.append_assoc]; rfl
def ApAt (base : Nat) (v0 : Value) (w : World) (bs : Bs) (zs : List Int) (v i : Value) (wr : World) : Prop :=
  ∃ k : Nat, i = .int .i64 k ∧ k ≤ zs.length ∧ RowB wr base v (bs ++ cat (zs.take k)) ∧ (Gv v0 w wr ∧ Own v0 w v) ∧ base ≤ wr.heap.size
def ApTo (base : Nat) (v0 : Value) (w : World) (bs : Bs) (e : Ending) (w' : World) : Prop := ∃ v, e = .returned v ∧ RowB w' base v bs ∧ (Gv v0 w w' ∧ Own v0 w v) ∧ base ≤ w'.heap.size
set_option maxHeartbeats 3200000 in
theorem append_any (base : Nat) (w : World) (v : Value) (bs : Bs) (ho : RowB w base v bs) (hB : base ≤ w.heap.size) (ad : Addr) (n : Nat) (zs : List Int) (hl : zs.length = n) (hs : Ns v w ad zs) (hz : ∀ z ∈ zs, 0 ≤ z ∧ z ≤ 4000000000000000000) (hn : bs.length ≤ 100000) (hm : n ≤ 100) :
    Calls Tryz.prog 208 #[v, .slice (some ad) n n] w (ApTo base v w (bs ++ cat zs)) := by
  have st : Hid (ApAt base v w bs zs v (.int .i64 0) w) := ⟨0, rfl, Nat.zero_le _, by simpa [cat] using ho, ⟨Gv.refl _ _, Own.refl _ _⟩, hB⟩
  have hl' := Lib.hid hl
  have hs' := Lib.hid hs
  have hz' := Lib.hid hz
  replace hB := Lib.hid hB
  clear hl hs hz ho
  go_enter Tryz.func208, Tryz.ntmps208
  go_wp2
  go_loopw [0, 10] (fun v' i wr => ApAt base v w bs zs v' i wr) (fun _ i _ => n - (intOf i).toNat)
  case atStart => exact st.out
  case round =>
    obtain ⟨w3, e3⟩ : ∃ x, x = wr := ⟨_, rfl⟩
    subst e3
    obtain ⟨k, rfl, hk, hrow, hgu, hbs⟩ := hrel
    replace hrow := Lib.hid hrow
    replace hgu := Lib.hid hgu
    replace hk := Lib.hid hk
    replace hbs := Lib.hid hbs
    by_cases hlt : k < n
    · obtain ⟨z, hzk⟩ : ∃ z, zs[k]? = some z := ⟨_, List.getElem?_eq_getElem (by have := hl'.out; omega)⟩
      have q := (hs'.out.gu hgu.out.1).at_ k z hzk
      obtain ⟨z0, z1⟩ := hz'.out z (List.mem_of_getElem? hzk)
      have hcl : (bs ++ cat (zs.take k)).length ≤ 110000 := by
        rw [List.length_append]
        have h1 := cat_len (zs.take k) (fun y hy => hz'.out y (List.mem_of_mem_take hy))
        have h2 : (zs.take k).length ≤ 100 := by rw [List.length_take]; have := hl'.out; omega
        omega
      have hel := encI_len z (by omega) (by omega)
      have hall : Hid (bs ++ cat (zs.take (k + 1)) = (bs ++ cat (zs.take k)) ++ Pk.encI z) := by show _ = _; rw [cat_snoc hzk, List.append_assoc]
      have st2 : Hid (InAt base v w (bs ++ cat (zs.take (k + 1))) u0 (.int .u64 (z * 2)) w3) := by
        rw [zz_pos z0]
        exact ⟨zz z, _, rfl, zz_lt z (by omega) (by omega), hrow.out, hall.out.symm, hgu.out, hbs.out⟩
      have hAl : Hid ((bs ++ cat (zs.take (k + 1))).length ≤ 110010) := by show _ ≤ _; rw [hall.out, List.length_append]; omega
      have hk1 : Hid (k + 1 ≤ zs.length) := by have := hl'.out; show _ ≤ _; omega
      clear hzk hcl hel hrow hgu hbs hall
      go_wp2_with fail
      refine (fold_any _ z z0 z1).mono ?_
      rintro e w' ⟨rfl, rfl⟩
      clear z0 z1 q
      go_wp2_with fail
      go_loopw [0, 7] (fun v' u wr => InAt base v w (bs ++ cat (zs.take (k + 1))) v' u wr) (fun _ u _ => (intOf u).toNat)
      case atStart => exact st2.out
      case round =>
        clear st2
        obtain ⟨x, pre, rfl, hx, ho, hall, hg, hb⟩ := hrel
        obtain ⟨A, c, rfl⟩ := own_form ho
        have hpl : pre.length ≤ 110010 := by
          have h1 := hAl.out
          rw [← hall, List.length_append] at h1
          omega
        replace hx := Lib.hid hx
        replace ho := Lib.hid ho
        replace hall := Lib.hid hall
        replace hg := Lib.hid hg
        replace hb := Lib.hid hb
        have hnb : pre.length + 1 ≤ 140737488355328 := by omega
        by_cases hgt : 127 < x
        · have Rn : Hid _ := rb_one wr _ _ (byte_hi x)
          have On : Hid _ := ho.out.alloc (.cells #[.int .u8 (bits .or .u8 ((x : Int) % 256) 128)] 5)
          go_wp2_with (at_builtin; refine wpList_append_b _ rfl (.tmp 20) (.tmp 24) rfl base (.slice A pre.length c) pre.length pre rfl On.out rfl Rn.out hnb (by have := hb.out; simp; omega) ?_; intro v6 w6 hown6 hg6 ho6; have st6 : Hid (InAt base v w (bs ++ cat (zs.take (k + 1))) v6 (.int .u64 ((x : Int) / 128)) w6) := in_next hgt hx.out hall.out hg.out hb.out hown6 hg6 ho6; clear hown6 hg6 ho6)
          go_roundw
          case rel => exact st6.out
          case measure => simp [intOf]; omega
        · have Rn : Hid _ := rb_one wr _ _ (byte_lo x (by omega))
          have On : Hid _ := ho.out.alloc (.cells #[.int .u8 (x : Int)] 5)
          have hfin : Hid (pre ++ [UInt8.ofNat x] = bs ++ cat (zs.take (k + 1))) := by have := hall.out; rw [enc_lo (by omega)] at this; exact this
          go_wp2_with (at_builtin; refine wpList_append_b _ rfl (.tmp 26) (.tmp 29) rfl base (.slice A pre.length c) pre.length pre rfl On.out rfl Rn.out hnb (by have := hb.out; simp; omega) ?_; intro v6 w6 hown6 hg6 ho6; have st6 : Hid (ApAt base v w bs zs v6 (.int .i64 ((k + 1 : Nat) : Int)) w6) := ⟨k + 1, rfl, hk1.out, by rw [← hfin.out]; unfold RowB; rw [List.length_append]; exact hown6, ⟨hg.out.1.row hg.out.2 ((World.grownBy_alloc _ _ _).trans hg6), hg.out.2.row hg.out.1 (by simpa using ho6)⟩, by have := hg6.size; simp at this; have := hb.out; omega⟩; clear hown6 hg6 ho6)
          go_roundw
          case rel => exact st6.out
          case measure => simp [intOf]; omega
    · have F : Hid (ApTo base v w (bs ++ cat zs) (.returned u0) w3) := by
        have h2 : zs.take k = zs := List.take_of_length_le (by have := hl'.out; omega)
        have h1 := hrow.out
        rw [h2] at h1
        exact ⟨u0, rfl, h1, hgu.out, hbs.out⟩
      go_wp2
      go_ret
      exact F.out
end Fi
end Go.Proofs.YtpkdigegkemogaaGreatDoor
namespace Go.Proofs.YtpkdigegkemogaaGreatDoor
set_option maxRecDepth 100000
open Go.RowKit
open Go.Proofs.YtpkdigegkemogaaGreatDoor.Pk (one_at one_free one_set lt_some u8s own_form wpList_append_b adr_block Rb)
namespace Fs
open Sg (Sag sz smay sgv sgc Tab)
open Sb (sput sput_len sput_any)
open St (RowI ivs Nz add0 ri_form)
open In (Bs RowB)
open Fi (Gv Own)

def BkTo (w : World) (l : List Int) (e : Ending) (w' : World) : Prop := ∃ v, e = .returned v ∧ RowI w' w.heap.size v l.length (ivs l) ∧ Below w.heap.size w w'
set_option maxHeartbeats 1000000 in
theorem books_any (w : World) (m : Nat) (f : F) (M : Map w m f) (O : Ok f) : Calls Tryz.prog 40 #[.map (some m)] w (BkTo w (keys f)) := by
  obtain ⟨D, hown, T⟩ := M
  have hz := T.few
  have cS := Lib.hid (Tryz.slices_Sorted_keys_72_73 m 200 D St.Rdv w hown (by unfold maxLen; omega) (by omega))
  have ks : Hid (∀ ss : List Int, ss.Perm (intKeys D) → (ss.mergeSort fun x y => decide (x ≤ y)) = keys f) := fun ss hp => keys_perm hown T O hp
  clear hown T O hz
  refine (callsIn_wide (n := 6)).1 ?_
  have hfK : Fence.wide.fn 73 := trivial
  have hfS : Fence.wide.fn 72 := trivial
  refine callsIn_of_wp Tryz.func40 rfl trivial ?_ rfl
  simp only [Tryz.ntmps40, List.size_toArray, List.length_cons, List.length_nil, Nat.reduceAdd, Nat.reduceSub, Array.replicate_succ, Array.replicate_zero, List.push_toArray, List.append_toArray, List.nil_append, List.cons_append]
  gi_wp2_with (first
    | (gi_at_call 73; refine (Tryz.maps_Keys_73 _ _).mono ?_; rintro e w' ⟨rfl, rfl⟩)
    | (gi_at_call 72; refine cS.out.mono ?_; rintro e w' ⟨v, ss, rfl, hS, hrow, hnil, hb⟩))
  go_ret
  have e1 := ks.out ss hS
  have e2 : ss.length = (keys f).length := by rw [← e1, List.length_mergeSort]
  rw [e1, e2] at hrow
  exact ⟨v, rfl, ownsRow_base_a hrow (by simp), ((Below.refl _ w).alloc (Nat.le_refl _) _).trans (hb.mono (by simp))⟩

theorem own_lt {w : World} {base n g : Nat} {t : TypeId} {k : Nat} {v : Value} {xs : List Value} (h : w.ownsRow base t k v n xs) (hg : v.ownBlock = some g) : base ≤ g ∧ ∃ cur, w.heap[g]? = some (.cells cur t (0, 0)) := by
  rcases h.2 with ⟨rfl, _⟩ | ⟨g', cap, cur, rfl, hb, hh, _⟩
  · simp [Value.ownBlock] at hg
  · have e1 : g' = g := by simpa [Value.ownBlock] using hg
    subst e1
    exact ⟨hb, cur, hh⟩
theorem gv_gu {w w' : World} {base : Nat} {v : Value} {bs : Bs} (h : Gv v w w') (r : RowB w base v bs) : St.Gu base w w' :=
  ⟨h.os, h.tape, h.output, h.size, fun g hg hn => h.block g hg fun e => by
    obtain ⟨h1, cur, h2⟩ := own_lt r e
    rcases hn with hn | hn
    · omega
    · exact hn _ _ h2⟩
theorem row_keep {w w' : World} {base n k : Nat} {t : TypeId} {v : Value} {xs : List Value} (h : w.ownsRow base t k v n xs) (hk : ∀ g, v.ownBlock = some g → w'.heap[g]? = w.heap[g]?) : w'.ownsRow base t k v n xs := by
  refine ⟨h.1, ?_⟩
  rcases h.2 with h0 | ⟨g, cap, cur, hv, hB, hh, h2⟩
  · exact .inl h0
  · exact .inr ⟨g, cap, cur, hv, hB, (hk g (by rw [hv]; rfl)).trans hh, h2⟩
def BtAt (w w2 : World) (f : F) (l : List Int) (v i : Value) (wr : World) : Prop :=
  ∃ k : Nat, i = .int .i64 k ∧ k ≤ l.length ∧ RowB wr w.heap.size v (many f (l.take k)) ∧ St.Gu w.heap.size w2 wr ∧ w.heap.size ≤ wr.heap.size
def ByTo (w : World) (bs : Bs) (e : Ending) (w' : World) : Prop := ∃ v, e = .returned v ∧ RowB w' w.heap.size v bs ∧ Below w.heap.size w w'
set_option maxHeartbeats 3200000 in
theorem bytes_any (w : World) (t : Tab w) (m : Nat) (f : F) (M : Map w m f) (O : Ok f) : Calls Tryz.prog 201 #[.map (some m)] w (ByTo w (bts f)) := by
  have ml := M.lt
  have BK := Lib.hid (books_any w m f M O)
  have hw : Hid (0 < w.heap.size) := t.lt
  have LW : Hid (∀ W : World, Below w.heap.size w W → Tab W ∧ ∀ k, St.Bd k → (Instr.lookup 92 (.map (some m)) (.int .i64 k) false).run Tryz.prog W = .ok (sgv (get f k)) W) := fun W hb => ⟨t.below hb, fun k hk => (M.below hb).look hk⟩
  have hmem : Hid (∀ (k : Nat) (z : Int), (keys f)[k]? = some z → 1 ≤ z ∧ z ≤ 200 ∧ smay (get f z) = true) := fun k z h => by
    obtain ⟨s, h1, h2, h3, h4, h5⟩ := get_may O (List.mem_of_getElem? h)
    exact ⟨h4, h5, by rw [h2]; exact h3⟩
  have hlen : Hid ((keys f).length ≤ 200) := keys_len f
  have hbig : Hid (∀ k, (many f ((keys f).take k)).length ≤ 24000) := fun k => by
    have h1 := many_len O ((keys f).take k) fun x hx => List.mem_of_mem_take hx
    have h2 : ((keys f).take k).length ≤ 200 := Nat.le_trans (by rw [List.length_take]; exact Nat.min_le_right _ _) hlen.out
    omega
  have hfin : Hid (∀ k, k = (keys f).length → many f ((keys f).take k) = bts f) := fun k hk => by
    rw [hk, List.take_length]; rfl
  generalize keys f = l at *
  clear M O t
  go_enter Tryz.func201, Tryz.ntmps201
  go_wp2_with fail
  refine BK.out.mono ?_
  rintro e w2 ⟨v2, rfl, o2, b2⟩
  obtain ⟨n, hn⟩ : ∃ n, n = l.length := ⟨_, rfl⟩
  rw [← hn] at o2
  obtain ⟨A, c, rfl, hc1, hc2, hc3⟩ := ri_form o2
  have NZ : Hid (Nz w2 A l) := Nz.of_row o2 hn.symm
  have st : Hid (BtAt w w2 f l (.slice none 0 0) (.int .i64 0) w2) := ⟨0, rfl, Nat.zero_le _, World.ownsRow_nil _ _ _ _, St.Gu.refl _ _, b2.size⟩
  have B2 : Hid (Below w.heap.size w w2) := b2
  replace hn := Lib.hid hn
  clear o2 b2 BK ml
  go_wp2_with fail
  go_loopw [3, 11] (fun v i wr => BtAt w w2 f l v i wr) (fun _ i _ => n - (intOf i).toNat)
  case atStart => exact st.out
  case round =>
    clear st
    obtain ⟨w3, e3⟩ : ∃ x, x = wr := ⟨_, rfl⟩
    subst e3
    obtain ⟨k, rfl, hk, hrow, hgu, hbs⟩ := hrel
    have hBr : Hid (Below w.heap.size w w3) := B2.out.trans (hgu.below B2.out.size)
    replace hrow := Lib.hid hrow
    replace hgu := Lib.hid hgu
    replace hk := Lib.hid hk
    replace hbs := Lib.hid hbs
    by_cases hlt : k < n
    · obtain ⟨z, hzk⟩ : ∃ z, l[k]? = some z := ⟨_, List.getElem?_eq_getElem (by have := hn.out; omega)⟩
      obtain ⟨ad, rfl, -, -, hcz⟩ := NZ.out.gu hgu.out k z hzk
      obtain ⟨z0, z1, hsm⟩ := hmem.out k z hzk
      obtain ⟨TB, LK⟩ := LW.out w3 hBr.out
      have LK := LK z ⟨by omega, by omega⟩
      have hmt := Lib.hid (many_take (f := f) hzk)
      have PA := sput_any w3 TB (get f z)
      rw [hsm] at PA
      have hl := sput_len hsm
      generalize get f z = s at *
      obtain ⟨bs, hb⟩ : ∃ bs, bs = sput s := ⟨_, rfl⟩
      rw [← hb] at PA hl hmt
      replace PA := Lib.hid PA
      replace hl := Lib.hid hl
      clear hb hsm TB hzk
      go_upto_region 5 with fail
      go_wp2_with fail
      refine PA.out.mono ?_
      intro e w5 h5
      obtain ⟨v5, rfl, ow⟩ := h5.yes rfl
      obtain ⟨A5, c5, rfl⟩ := own_form ow
      have b5 : Hid (Below w3.heap.size w3 w5) := h5.be
      have ow5 : Hid (w5.ownsRow w3.heap.size 5 1 (.slice A5 bs.length c5) bs.length (u8s bs)) := ow
      obtain ⟨W6, e6⟩ : ∃ W, W = w5.alloc (.cells #[.int .i64 (bs.length : Int)] 3) := ⟨_, rfl⟩
      have b6 : Below w5.heap.size w5 W6 := by rw [e6]; exact (Below.refl _ _).alloc (Nat.le_refl _) _
      have c6 : W6.heap[w5.heap.size]? = some (.cells #[.int .i64 (bs.length : Int)] 3 (0, 0)) := by rw [e6]; exact heap_alloc_new _ _
      have r6 : RowB W6 w.heap.size u3 (many f (l.take k)) := row_keep hrow.out fun g hg => by
        obtain ⟨_, cur, h⟩ := own_lt hrow.out hg
        have := lt_some h
        exact (b6.block g (Nat.lt_of_lt_of_le this b5.out.size)).trans (b5.out.block g this)
      have far : ∀ g, u3.ownBlock = some g → g < w3.heap.size := fun g hg => by
        obtain ⟨_, cur, h⟩ := own_lt hrow.out hg
        exact lt_some h
      have AP := Fi.append_any w.heap.size W6 u3 _ r6 (by have := b6.size; have := b5.out.size; have := hbs.out; omega) ⟨w5.heap.size, 0, none⟩ 1 [(bs.length : Int)] rfl
        ⟨lt_some c6, fun e => by have h' : w5.heap.size < w3.heap.size := far _ e; have := b5.out.size; omega, fun j y hj => by
          rw [add0, one_at c6]
          match j, hj with
          | 0, hj => simp at hj; subst hj; rfl
          | j + 1, hj => simp at hj⟩ (fun y hy => by have := hl.out; simp at hy; omega) (Nat.le_trans (hbig.out k) (by omega)) (by omega)
      replace AP := Lib.hid AP
      replace e6 := Lib.hid e6
      replace b6 := Lib.hid b6
      replace r6 := Lib.hid r6
      replace far := Lib.hid far
      clear h5 ow PA LK hcz c6 hrow
      go_wp2_with fail
      rw [← e6.out]
      refine AP.out.mono ?_
      rintro e w7 ⟨v7, rfl, r7, ⟨G7, -⟩, s7⟩
      have rb7 : w7.ownsRow w3.heap.size 5 1 (.slice A5 bs.length c5) bs.length (u8s bs) := row_keep ow5.out fun g hg => by
        obtain ⟨h1, cur, h⟩ := own_lt ow5.out hg
        have h2 := lt_some h
        exact (G7.block g (Nat.lt_of_lt_of_le h2 b6.out.size) fun e => by have := far.out g e; omega).trans (b6.out.block g h2)
      have R7 := Lib.hid (Rb.of_own rb7)
      have O7 : Hid (RowB w7 w.heap.size v7 (many f (l.take k) ++ Pk.encI (bs.length : Int))) := by
        have e : In.cat [(bs.length : Int)] = Pk.encI (bs.length : Int) := by simp [In.cat]
        rw [← e]
        exact r7
      have gu7 : Hid (St.Gu w.heap.size w2 w7) := ((hgu.out.trans (.of_below b5.out)).trans (.of_below b6.out)).trans (gv_gu G7 r6.out)
      have hb7 : Hid ((many f (l.take k) ++ Pk.encI (bs.length : Int)).length + bs.length ≤ 140737488355328) := by
        have h1 := hbig.out k
        have h2 := Pk.encI_len (bs.length : Int) (by omega) (by have := hl.out; omega)
        have h3 := hl.out
        show _ ≤ _
        rw [List.length_append]
        omega
      have s7' : Hid (w.heap.size ≤ w7.heap.size) := s7
      clear AP e6 b6 r6 far r7 G7 rb7 ow5 b5 hgu hbs s7 hl
      go_wp2_with (at_builtin; refine wpList_append_b _ rfl (.tmp 26) (.tmp 27) rfl w.heap.size v7 _ _ rfl O7.out rfl R7.out hb7.out s7'.out ?_; intro v8 w8 hown8 hg8 _; have st8 : Hid (BtAt w w2 f l v8 (.int .i64 ((k + 1 : Nat) : Int)) w8) := ⟨k + 1, rfl, by have := hn.out; omega, by rw [hmt.out]; unfold Pk.encT RowB; rw [← List.append_assoc, List.length_append]; exact hown8, gu7.out.trans (St.Gu.of_row hg8 O7.out), by have := hg8.size; have := s7'.out; omega⟩; clear hown8 hg8)
      go_roundw
      case rel => exact st8.out
      case measure => simp [intOf]; omega
    · have F : Hid (ByTo w (bts f) (.returned u3) w3) := by
        have h1 := hrow.out
        rw [hfin.out k (by have := hk.out; have := hn.out; omega)] at h1
        exact ⟨u3, rfl, h1, hBr.out⟩
      go_wp2
      go_ret
      exact F.out
end Fs
end Go.Proofs.YtpkdigegkemogaaGreatDoor
