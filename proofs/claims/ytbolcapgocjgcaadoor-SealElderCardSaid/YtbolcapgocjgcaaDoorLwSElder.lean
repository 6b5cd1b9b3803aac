/- Proved: a crash between a state's renaming and the cutting of the log behind it lets no elder record count (SealElder), for any records and any state, the package's table being as the program's text lays it. -/
import Derived.Test.YtbolcapgocjgcaaDoorSeP
import Derived.Lib.QuietBelow
import Derived.Test.YtbolcapgocjgcaaDoorCards
import Derived.Test.YtbolcapgocjgcaaDoorTie
namespace Go.Proofs.YtbolcapgocjgcaaDoor.sealElder
set_option maxRecDepth 100000
open Go.ChangeShapes Go.WideShapes Go.ChangeAt Go.WideElems Go.RowKit
open Go.Proofs.YtbolcapgocjgcaaDoor.Pk Go.Proofs.YtbolcapgocjgcaaDoor.Se
open Go.Proofs.YtbolcapgocjgcaaDoor.Dk (Bs Live LTo nm used sCrash sApp sSync rb_lit below_alloc)
open Go.Proofs.YtbolcapgocjgcaaDoor.Fr (frames frame Txts view_texts)

/-- A log without a state, with the records l, none synced. -/
def pA (l : List Bs) : Ab := ⟨0, none, if l = [] then none else some (some l, 0)⟩
theorem pA_rc (l : List Bs) : (pA l).rc = l := by
  unfold pA Ab.rc Ab.con
  by_cases h : l = []
  · subst h; rfl
  · rw [if_neg h]; rfl
theorem pA_put (l : List Bs) (b : Bs) : (pA l).put b = pA (l ++ [b]) := by
  have h : (pA l).sy = 0 := by unfold pA Ab.sy; by_cases h : l = [] <;> simp [h]
  unfold Ab.put
  rw [pA_rc, h]
  show (⟨0, none, some (some (l ++ [b]), 0)⟩ : Ab) = pA (l ++ [b])
  simp [pA]
theorem pA_con (l : List Bs) : (pA l).con = if l = [] then none else some l := by
  unfold pA Ab.con
  by_cases h : l = [] <;> simp [h]
theorem pA_ok {l : List Bs} (h : Fr.Ok l) : (pA l).Ok := by
  refine ⟨fun _ => rfl, by show 0 ≤ _; omega, (fun r hr => by cases hr), by rw [pA_rc]; exact h, ?_⟩
  have h0 : (pA l).sy = 0 := by unfold pA Ab.sy; by_cases h : l = [] <;> simp [h]
  omega
theorem short_ok {l : List Bs} (h : ∀ r ∈ l, 1 ≤ r.length ∧ r.length ≤ 40) : Fr.Ok l := fun r hr => by have := h r hr; omega
theorem pA_used {l : List Bs} (h : ∀ r ∈ l, 1 ≤ r.length ∧ r.length ≤ 40) (hn : l.length ≤ 8) : used (pA l).L ≤ 384 := by
  rw [Ab.used_eq, pA_con]
  have e : ((pA l).snp.getD []).length = 0 := rfl
  rw [e]
  by_cases hl : l = []
  · rw [if_pos hl]
    show 0 + 0 ≤ _
    omega
  · rw [if_neg hl]
    have := cnt_le (g := 0) (M := 40) (by omega) h
    have h2 : l.length * (40 + 6) ≤ 8 * 46 := Nat.mul_le_mul_right _ hn
    show 0 + (cnt 0 (some l)).length ≤ _
    omega
theorem pA_fits {l : List Bs} {b : Bs} (h : ∀ r ∈ l, 1 ≤ r.length ∧ r.length ≤ 40) (hn : l.length ≤ 8) (hb : b.length ≤ 40) : used (pA l).L + (pA l).cost b ≤ 1000000 := by
  have h1 := pA_used h hn
  have h2 := (enc_ok 0 (by omega)).2
  have h3 : (pA l).cost b ≤ (Pk.encI ((0 : Nat) : Int)).length + 6 + (b.length + 6) := by
    unfold Ab.cost
    split
    · exact Nat.le_refl _
    · omega
  omega
theorem sv_fits {l st : List Bs} (h : ∀ r ∈ l, 1 ≤ r.length ∧ r.length ≤ 40) (hn : l.length ≤ 8) (hs : ∀ r ∈ st, 1 ≤ r.length ∧ r.length ≤ 40) (hm : st.length ≤ 4) : used (pA l).sync.L + (cnt ((pA l).sync.g + 1) (some st)).length ≤ 1000000 := by
  have h1 := pA_used h hn
  have e : used (pA l).sync.L = used (pA l).L := by
    rw [Ab.used_eq, Ab.used_eq, sync_con]; rfl
  have h2 := cnt_le (g := (pA l).sync.g + 1) (M := 40) (by show 0 + 1 ≤ _; omega) hs
  have h3 : st.length * (40 + 6) ≤ 4 * 46 := Nat.mul_le_mul_right _ hm
  omega
/-- The log behind the state's renaming, with the elder records in "log". -/
def eA (st : List Bs) : Ab := ⟨1, some st, some (none, 0)⟩
theorem eA_ok {st : List Bs} (h : Fr.Ok st) : (eA st).Ok := ⟨(fun e => by cases e), by show 1 ≤ _; omega, h, (fun r hr => by cases hr), Nat.zero_le _⟩
theorem eA_used {st : List Bs} (hs : ∀ r ∈ st, 1 ≤ r.length ∧ r.length ≤ 40) (hm : st.length ≤ 4) : used (eA st).L ≤ 200 := by
  have h2 := cnt_le (g := 1) (M := 40) (by omega) hs
  have h3 : st.length * (40 + 6) ≤ 4 * 46 := Nat.mul_le_mul_right _ hm
  rw [Ab.used_eq]
  show (cnt 1 (some st)).length + 0 ≤ _
  omega
theorem eA_fits {st : List Bs} (hs : ∀ r ∈ st, 1 ≤ r.length ∧ r.length ≤ 40) (hm : st.length ≤ 4) : used (eA st).L + (eA st).cost [122] ≤ 1000000 := by
  have h1 := eA_used hs hm
  have h2 := (enc_ok 1 (by omega)).2
  have h3 : (eA st).cost [122] = (Pk.encI ((1 : Nat) : Int)).length + 6 + 7 := rfl
  omega
theorem bof_pA (l : List Bs) : bof logN (pA l).sync.L = cnt 0 (pA l).con := by
  unfold Ab.L
  rw [raw_bofl]
  unfold Ab.con
  unfold Ab.sync
  cases (pA l).lg <;> rfl
/-- The elder records put back, and synced. -/
theorem back {l st : List Bs} (h : ∀ r ∈ l, 1 ≤ r.length ∧ r.length ≤ 40) (hn : l.length ≤ 8) (hs : ∀ r ∈ st, 1 ≤ r.length ∧ r.length ≤ 40) (hm : st.length ≤ 4) :
    (sSync (sApp 1000000 ((pA l).sync.save st).L logN (cnt 0 (pA l).con)).2 logN).2 = raw (eA st).snp (some (cnt 0 (pA l).con, (cnt 0 (pA l).con).length)) := by
  have e : ((pA l).sync.save st).L = raw (eA st).snp ((pA l).lg.map fun _ => ([], 0)) := by
    unfold Ab.save Ab.sync Ab.L
    show raw _ _ = _
    simp only [Option.map_map]
    rfl
  rw [e, raw_app]
  have hu : used (raw (eA st).snp ((pA l).lg.map fun _ => ([], 0))) ≤ 200 := by
    have := eA_used hs hm
    have e2 : used (eA st).L = used (raw (eA st).snp ((pA l).lg.map fun _ => ([], 0))) := by
      unfold Ab.L
      rw [raw_used, raw_used]
      cases (pA l).lg <;> rfl
    omega
  have hc : (cnt 0 (pA l).con).length ≤ 384 := by
    have := pA_used h hn
    rw [Ab.used_eq] at this
    have e3 : (pA l).g = 0 := rfl
    rw [e3] at this
    omega
  rw [if_neg (by omega)]
  simp only
  rw [raw_sync]
  have e4 : ((pA l).lg.map fun _ => (([] : Bs), 0)).elim [] (·.1) = [] := by cases (pA l).lg <;> rfl
  rw [e4]
  rfl
theorem elder_open {l st : List Bs} (h : ∀ r ∈ l, 1 ≤ r.length ∧ r.length ≤ 40) (hs : ∀ r ∈ st, 1 ≤ r.length ∧ r.length ≤ 40) :
    pOpen (raw (eA st).snp (some (cnt 0 (pA l).con, (cnt 0 (pA l).con).length))) = ((eA st).L, st, []) := by
  have ok := eA_ok (short_ok hs)
  obtain ⟨rc, e, hr⟩ : ∃ rc e, rdf (cnt 0 (pA l).con) = (0, rc, e) := by
    rw [pA_con]
    by_cases hl : l = []
    · rw [if_pos hl]; exact ⟨_, _, rdf_emp⟩
    · rw [if_neg hl]; exact ⟨_, _, rdf_cnt (g := 0) (by omega) (short_ok h)⟩
  have := ok.open_of (x := some (cnt 0 (pA l).con, (cnt 0 (pA l).con).length)) hr
  rw [this, if_neg (by show ¬ (0 : Int) = ((1 : Nat) : Int); omega)]
  rfl

theorem txts_lr {W : World} {A : Option Addr} {n c : Nat} {l : List Bs} (h : Txts W W.heap.size A n l) : Fr.Lr W (.slice A l.length c) l := by
  refine ⟨A, c, rfl, fun hn => ?_⟩
  obtain ⟨a, ha, hab, h2⟩ := h.at_ (by have := h.len; omega)
  refine ⟨a, ha, hab, fun i r hi => ?_⟩
  obtain ⟨u, hu, Ai, ci, e, _, _, _, hR⟩ := h2 i r hi
  exact ⟨Ai, ci, by rw [hu, e], hR⟩

/-- How far the first loop has come. -/
def OkAt (l m : List Bs) (i : Value) : Prop := ∃ k : Nat, i = .int .i64 k ∧ k ≤ l.length + m.length ∧ ∀ r ∈ (l ++ m).take k, 1 ≤ r.length ∧ r.length ≤ 40
theorem ok_next {l m : List Bs} {k : Nat} {r : Bs} (h : ∀ r ∈ (l ++ m).take k, 1 ≤ r.length ∧ r.length ≤ 40) (hr : (l ++ m)[k]? = some r) (h1 : 1 ≤ r.length) (h2 : r.length ≤ 40) : ∀ r ∈ (l ++ m).take (k + 1), 1 ≤ r.length ∧ r.length ≤ 40 := by
  intro x hx
  rw [List.take_add_one, hr] at hx
  rcases List.mem_append.1 hx with hx | hx
  · exact h x hx
  · have : x = r := by simpa using hx
    subst this
    exact ⟨h1, h2⟩
def PuAt (w : World) (p : Nat) (X : Nat → Prop) (q : Nat) (l : List Bs) (i : Value) (wr : World) : Prop :=
  ∃ k : Nat, i = .int .i64 k ∧ k ≤ l.length ∧ Lg w wr p 1000000 (pA (l.take k)).L X q (pA (l.take k)).rc.length

set_option maxHeartbeats 6400000 in
theorem walk (A0 : Option Addr) (n0 c0 : Nat) (l : List Bs) (A1 : Option Addr) (n1 c1 : Nat) (st : List Bs) (w : World) (T0 : Txts w w.heap.size A0 n0 l) (T1 : Txts w w.heap.size A1 n1 st) (ht : Tab w) (hc0 : n0 ≤ 9223372036854775807) (hc1 : n1 ≤ 9223372036854775807) :
    Calls Tryd.prog 4 #[.slice A0 n0 c0, .slice A1 n1 c1] w fun e w' => e = .returned (.bool true) ∧ Below w.heap.size w w' := by
  have N0 := Lib.hid (Dk.l_new w 1000000 (by omega) (Below.refl w.heap.size w))
  have TA : Hid (∀ w', Below w.heap.size w w' → Calls Tryd.prog 10 #[] w' fun e w'' => e = .returned (.bool true) ∧ Below w'.heap.size w' w'') := fun w' hb => Se.told_any w' (ht.below hb)
  by_cases hz : n0 ≤ 8 ∧ n1 ≤ 4
  · obtain ⟨z0, z1⟩ := hz
    have q0 : decide ((8 : Int) < (n0 : Int)) = false := decide_eq_false (by omega)
    have q1 : decide ((4 : Int) < (n1 : Int)) = false := decide_eq_false (by omega)
    have y0 := T0.len
    have y1 := T1.len
    have R0 := txts_lr (c := c0) T0
    have R1 := txts_lr (c := c1) T1
    have P0 := Lib.hid (lb_of R0).at_
    have P1 := Lib.hid (lb_of R1).at_
    replace R1 := Lib.hid R1
    subst y0 y1
    replace ht := Lib.hid ht
    clear T0 T1 R0
    go_enter Tryd.func4, Tryd.ntmps4
    go_wp2_with fail
    refine N0.out.mono ?_
    rintro e w1 ⟨p, rfl, V1⟩
    have C1 := Lib.hid (a_open (a := ab0) V1 ab0_ok ht.out)
    clear N0 V1
    go_wp2_with fail
    refine C1.out.mono ?_
    rintro e w2 h2
    obtain ⟨q, B1, d1, B2, d2, X2, rfl, G2, _⟩ := open_lg h2
    rw [show ab0.st.length = 0 from rfl, show ab0.rc.length = 0 from rfl]
    replace G2 : Hid (Lg w w2 p 1000000 (pA []).L X2 q (pA []).rc.length) := G2
    have b2 : Hid (Below w.heap.size w w2) := G2.out.live.be
    have P0a : Hid (∀ (k : Nat) (r : Bs), l[k]? = some r → ∃ ad Ai ci, A0 = some ad ∧ w2.cell? (ad.add k) = some (.slice Ai r.length ci)) := fun k r hk => by
      obtain ⟨ad, Ai, ci, e, h⟩ := P0.out k r hk
      exact ⟨ad, Ai, ci, e, (h w2 b2.out).1⟩
    have P1a : Hid (∀ (k : Nat) (r : Bs), st[k]? = some r → ∃ ad Ai ci, A1 = some ad ∧ w2.cell? (ad.add k) = some (.slice Ai r.length ci)) := fun k r hk => by
      obtain ⟨ad, Ai, ci, e, h⟩ := P1.out k r hk
      exact ⟨ad, Ai, ci, e, (h w2 b2.out).1⟩
    have TA2 := Lib.hid (TA.out w2 b2.out)
    clear C1 h2
    go_wp2_with fail
    go_loop [11] (fun i => OkAt l st i) (fun i => l.length + st.length - (intOf i).toNat)
    case atStart => exact ⟨0, rfl, Nat.zero_le _, by simp⟩
    case round =>
      obtain ⟨k, rfl, hk, hok⟩ := hrel
      replace hok := Lib.hid hok
      by_cases hl : k < l.length
      · have hl2 : k < l.length + st.length := by omega
        obtain ⟨r, hr⟩ : ∃ r, l[k]? = some r := ⟨_, List.getElem?_eq_getElem (by omega)⟩
        obtain ⟨ad, Ai, ci, rfl, hc⟩ := P0a.out k r hr
        have hr2 : (l ++ st)[k]? = some r := by rw [List.getElem?_append_left (by omega)]; exact hr
        by_cases h1 : 1 ≤ r.length
        · have e1 : decide ((r.length : Int) < 1) = false := decide_eq_false (by omega)
          by_cases h2 : r.length ≤ 40
          · have e2 : decide ((40 : Int) < (r.length : Int)) = false := decide_eq_false (by omega)
            have nx : Hid (OkAt l st (.int .i64 (((k : Nat) : Int) + 1))) := ⟨k + 1, by simp, by omega, ok_next hok.out hr2 h1 h2⟩
            clear hr hr2 h1 h2 hok
            go_wp2
            exact ⟨by simpa using nx.out, by simp [intOf]; omega⟩
          · have e2 : decide ((40 : Int) < (r.length : Int)) = true := decide_eq_true (by omega)
            clear hr hr2 h1 h2 hok
            go_wp2_with fail
            refine TA2.out.mono ?_
            rintro e w' ⟨rfl, hb⟩
            have be : Hid (Below w.heap.size w w') := b2.out.trans (hb.mono b2.out.size)
            clear hb
            go_wp2
            go_ret
            exact ⟨rfl, be.out⟩
        · have e1 : decide ((r.length : Int) < 1) = true := decide_eq_true (by omega)
          clear hr hr2 h1 hok
          go_wp2_with fail
          refine TA2.out.mono ?_
          rintro e w' ⟨rfl, hb⟩
          have be : Hid (Below w.heap.size w w') := b2.out.trans (hb.mono b2.out.size)
          clear hb
          go_wp2
          go_ret
          exact ⟨rfl, be.out⟩
      · by_cases hlt : k < l.length + st.length
        · obtain ⟨j, rfl⟩ : ∃ j, k = l.length + j := ⟨k - l.length, by omega⟩
          have hj : j < st.length := by omega
          obtain ⟨r, hr⟩ : ∃ r, st[j]? = some r := ⟨_, List.getElem?_eq_getElem (by omega)⟩
          obtain ⟨ad, Ai, ci, rfl, hc⟩ := P1a.out j r hr
          have hr2 : (l ++ st)[l.length + j]? = some r := by rw [List.getElem?_append_right (by omega)]; simpa using hr
          by_cases h1 : 1 ≤ r.length
          · have e1 : decide ((r.length : Int) < 1) = false := decide_eq_false (by omega)
            by_cases h2 : r.length ≤ 40
            · have e2 : decide ((40 : Int) < (r.length : Int)) = false := decide_eq_false (by omega)
              have nx : Hid (OkAt l st (.int .i64 (((l.length + j : Nat) : Int) + 1))) := ⟨l.length + j + 1, by simp, by omega, ok_next hok.out hr2 h1 h2⟩
              clear hr hr2 h1 h2 hok
              go_wp2
              exact ⟨by simpa using nx.out, by simp [intOf]; omega⟩
            · have e2 : decide ((40 : Int) < (r.length : Int)) = true := decide_eq_true (by omega)
              clear hr hr2 h1 h2 hok
              go_wp2_with fail
              refine TA2.out.mono ?_
              rintro e w' ⟨rfl, hb⟩
              have be : Hid (Below w.heap.size w w') := b2.out.trans (hb.mono b2.out.size)
              clear hb
              go_wp2
              go_ret
              exact ⟨rfl, be.out⟩
          · have e1 : decide ((r.length : Int) < 1) = true := decide_eq_true (by omega)
            clear hr hr2 h1 hok
            go_wp2_with fail
            refine TA2.out.mono ?_
            rintro e w' ⟨rfl, hb⟩
            have be : Hid (Below w.heap.size w w') := b2.out.trans (hb.mono b2.out.size)
            clear hb
            go_wp2
            go_ret
            exact ⟨rfl, be.out⟩
        · obtain rfl : k = l.length + st.length := by omega
          rw [List.take_of_length_le (by simp)] at hok
          have hl0 : Hid (∀ r ∈ l, 1 ≤ r.length ∧ r.length ≤ 40) := fun r hr => hok.out r (List.mem_append_left _ hr)
          have hs0 : Hid (∀ r ∈ st, 1 ≤ r.length ∧ r.length ≤ 40) := fun r hr => hok.out r (List.mem_append_right _ hr)
          clear hok hl hlt hk P0a P1a TA2
          go_wp2_with fail
          go_loopw [14] (fun i wr => PuAt w p X2 q l i wr) (fun i _ => l.length - (intOf i).toNat)
          case atStart => exact ⟨0, rfl, Nat.zero_le _, G2.out⟩
          case round =>
            obtain ⟨k, rfl, hk, G⟩ := hrel
            by_cases hlt : k < l.length
            · obtain ⟨r, hr⟩ : ∃ r, l[k]? = some r := ⟨_, List.getElem?_eq_getElem hlt⟩
              obtain ⟨ad, Ai, ci, rfl, hc⟩ := P0.out k r hr
              obtain ⟨hcell, hR⟩ := hc wr G.live.be
              have hr40 := hl0.out r (List.mem_of_getElem? hr)
              have hk40 : ∀ x ∈ l.take k, 1 ≤ x.length ∧ x.length ≤ 40 := fun x hx => hl0.out x (List.mem_of_mem_take hx)
              have C := a_put G (pA_ok (short_ok hk40)) ht.out Ai r.length ci r hR (fun g hg => Nat.lt_of_lt_of_le hg G.live.be.size) (by omega) (by omega) (pA_fits hk40 (by rw [List.length_take]; omega) hr40.2)
              rw [pA_put] at C
              have e2 : l.take (k + 1) = l.take k ++ [r] := by rw [List.take_add_one, hr]; rfl
              rw [← e2] at C
              replace C := Lib.hid C
              clear hr hc hR hr40 hk40 e2 G
              go_wp2_with fail
              refine C.out.mono ?_
              rintro e w3 ⟨rfl, T3⟩
              have nx : Hid (PuAt w p X2 q l (.int .i64 ((k : Int) + 1)) w3) := ⟨k + 1, by simp, hlt, T3.1⟩
              clear C T3
              go_wp2
              exact ⟨nx.out, by simp [intOf]; omega⟩
            · obtain rfl : k = l.length := by omega
              rw [List.take_of_length_le (Nat.le_refl _)] at G
              have okl := pA_ok (short_ok hl0.out)
              have C3 := Lib.hid (a_sync G)
              clear hlt hk G2 b2
              go_wp2_with fail
              refine C3.out.mono ?_
              rintro e w3 ⟨rfl, T3⟩
              have C4 := bread T3.1.live ⟨#[108, 111, 103]⟩ (by decide)
              unfold BrTo at C4
              rw [show nm ⟨#[108, 111, 103]⟩ = logN from rfl, bof_pA] at C4
              obtain ⟨er, her⟩ : ∃ z : Int, z = if (Dk.look logN (pA l).sync.L).isSome then 0 else 5 := ⟨_, rfl⟩
              rw [← her] at C4
              obtain ⟨nb, hnb⟩ : ∃ z, z = (cnt 0 (pA l).con).length := ⟨_, rfl⟩
              rw [← hnb] at C4
              have hnb2 : nb ≤ 1000 := by
                have := pA_used hl0.out z0
                rw [Ab.used_eq] at this
                have e3 : (pA l).g = 0 := rfl
                rw [e3] at this
                omega
              have G3 := Lib.hid T3.1
              replace C4 := Lib.hid C4
              clear her hnb C3 T3 G
              go_wp2_with fail
              refine C4.out.mono ?_
              rintro e w4 ⟨Ab', cb, rfl, _, _, _, Rb4, b4⟩
              have hq3 := lt_some G3.out.at_
              have G4 := G3.out.more b4
              obtain ⟨X3, hX3⟩ : ∃ z, z = fun g => X2 g ∨ (w3.heap.size ≤ g ∧ g < w4.heap.size) := ⟨_, rfl⟩
              rw [← hX3] at G4
              have Rb4b : Rb w4 (fun g => X3 g ∧ g ≠ q) Ab' nb (cnt 0 (pA l).con) := Rb4.keep (fun _ _ => rfl) (fun g hg => ⟨by rw [hX3]; exact .inr hg, by have := hg.1; omega⟩)
              have C5 := Lib.hid (a_save (a := (pA l).sync) (by rw [sync_rc] at G4 ⊢; exact G4) okl.sync ht.out _ st (R1.out.below G4.live.be) (by omega) (short_ok hs0.out) (sv_fits hl0.out z0 hs0.out z1))
              replace Rb4b := Lib.hid Rb4b
              clear hX3 Rb4 b4 C4 G3 G4 hq3
              go_wp2_with fail
              refine C5.out.mono ?_
              rintro e w5 ⟨rfl, T5⟩
              have Rb5 : Rb w5 (fun g => g < w5.heap.size) Ab' nb (cnt 0 (pA l).con) := Rb4b.out.keep (fun g hg => T5.2.1 g hg.1 hg.2) (fun g hg => T5.1.live.xs g hg.1)
              have C6 := Dk.l_append T5.1.live ⟨#[108, 111, 103]⟩ Ab' nb cb _ Rb5 (fun _ h => h) (by omega) (by have := ((pA l).sync.save st).len_L; omega)
              rw [show nm ⟨#[108, 111, 103]⟩ = logN from rfl] at C6
              have hbk := back hl0.out z0 hs0.out z1
              have hl6 := len_app (room := 1000000) (L := ((pA l).sync.save st).L) (n := logN) (b := cnt 0 (pA l).con)
              have hl5 := ((pA l).sync.save st).len_L
              obtain ⟨e6, he6⟩ : ∃ z, z = (sApp 1000000 ((pA l).sync.save st).L logN (cnt 0 (pA l).con)).1 := ⟨_, rfl⟩
              obtain ⟨L6, hL6⟩ : ∃ z, z = (sApp 1000000 ((pA l).sync.save st).L logN (cnt 0 (pA l).con)).2 := ⟨_, rfl⟩
              rw [← he6, ← hL6] at C6
              rw [← hL6] at hbk hl6
              have hl6b : L6.length ≤ 3 := by omega
              replace C6 := Lib.hid C6
              replace hbk := Lib.hid hbk
              clear he6 hL6 C5 T5 Rb5 Rb4b hl6 hl5
              go_wp2_with fail
              refine C6.out.mono ?_
              rintro e w6 ⟨rfl, T6⟩
              have C7 := Dk.l_sync T6.1 ⟨#[108, 111, 103]⟩ (by decide) (by omega)
              rw [show nm ⟨#[108, 111, 103]⟩ = logN from rfl] at C7
              obtain ⟨e7, he7⟩ : ∃ z, z = (sSync L6 logN).1 := ⟨_, rfl⟩
              rw [← he7, hbk.out] at C7
              replace C7 := Lib.hid C7
              clear he7 hbk C6 T6
              go_wp2_with fail
              refine C7.out.mono ?_
              rintro e w7 ⟨rfl, T7⟩
              have C8 := open_any T7.1 ht.out (by have := raw_len (eA st).snp (some (cnt 0 (pA l).con, (cnt 0 (pA l).con).length)); omega)
              rw [elder_open hl0.out hs0.out] at C8
              replace C8 := Lib.hid C8
              clear C7 T7
              go_wp2_with fail
              refine C8.out.mono ?_
              rintro e w8 h8
              obtain ⟨q2, S1, s1, S2, s2, X4, rfl, G8, _, _, U1, _, _, _⟩ := open_lg h8
              rw [show ([] : List Bs).length = 0 from rfl] at G8 ⊢
              have oke := eA_ok (short_ok hs0.out)
              have G8a : Lg w _ p 1000000 (eA st).L X4 q2 (eA st).rc.length := G8.below (below_alloc w8 (.cells #[.int .u8 122] 5 (1, 2)))
              have U1a : Lt (w8.alloc (.cells #[.int .u8 122] 5 (1, 2))) (fun g => X4 g ∧ g ≠ q2) (.slice S1 st.length s1) st := U1.keep (fun g hg => heap_alloc_old _ _ (G8.live.xs g hg.1)) (fun _ h => h)
              have C9 := Lib.hid (a_put G8a oke ht.out _ 1 1 [122] (rb_lit w8 [122] (1, 2)) (fun g hg => by subst hg; simp) (by omega) (by decide) (eA_fits hs0.out z1))
              have kc := fun (w : World) (C : Array Value) (n c : Nat) => Lib.run_convert_bytes_const (P := Tryd.prog) w 31 5 C n c Tryd.underlying31 Tryd.underlying5
              replace U1a := Lib.hid U1a
              clear h8 C8 G8 U1 G8a
              go_wp2_with fail
              refine C9.out.mono ?_
              rintro e w9 ⟨rfl, T9⟩
              have U2 : Lt w9 (fun g => X4 g ∧ g ≠ q2) (.slice S1 st.length s1) st := U1a.out.keep (fun g hg => T9.2.1 g hg.1 hg.2) (fun _ h => h)
              have C10 := Lib.hid (a_open (a := (eA st).put [122]) T9.1.live (oke.put (by decide)) ht.out)
              have xs9 : Hid (∀ g, X4 g → g < w9.heap.size) := T9.1.live.xs
              replace U2 := Lib.hid U2
              clear C9 T9 U1a kc
              go_wp2_with fail
              refine C10.out.mono ?_
              rintro e w10 h10
              obtain ⟨q3, S3, s3, S4, s4, X5, rfl, G10, _, _, U3, U4, k10, z10⟩ := open_lg h10
              have est : ((eA st).put [122]).st = st := rfl
              have erc : ((eA st).put [122]).rc = [[122]] := rfl
              rw [est] at U3
              rw [erc] at U4
              rw [est, erc, show [[(122 : UInt8)]].length = 1 from rfl]
              have LS := U2.out.keep (w' := w10) (fun g hg => k10 g hg.1) (fun g h => (Nat.lt_of_lt_of_le (xs9.out g h.1) z10 : g < w10.heap.size))
              have LT := U3.keep (w' := w10) (fun _ _ => rfl) (fun g h => (G10.live.xs g h.1 : g < w10.heap.size))
              have LU := U4.keep (w' := w10) (fun _ _ => rfl) (fun g h => (G10.live.xs g h.1 : g < w10.heap.size))
              have RS := Lib.hid (LS.lr (fun _ h => h))
              have RT := Lib.hid (LT.lr (fun _ h => h))
              obtain ⟨_, _, e4, hu4⟩ := LU
              injection e4 with e41 _ e43
              subst e41 e43
              obtain ⟨ad, rfl, hab, hu4⟩ := hu4 (by decide)
              obtain ⟨Ai, ci, k4, _, _, R4⟩ := hu4 0 [122] rfl
              rw [Addr.add_zero', show [(122 : UInt8)].length = 1 from rfl] at k4
              have be : Hid (Below w.heap.size w w10) := G10.live.be
              have hst : Hid (st.length ≤ 1000) := by show _ ≤ _; omega
              have FZ : Hid (∀ w', Below w10.heap.size w10 w' → w'.cell? ad = some (.slice Ai 1 ci) ∧ ∀ W, Below w'.heap.size w' W → (convert 31 9 (.slice Ai 1 ci)).run Tryd.prog W = .ok (.string (str [122])) W) := fun w' hb => ⟨(World.cell?_of_block (hb.block _ hab)).trans k4, fun W hW => str_run (c := ci) (T := fun _ => True) ((R4.keep (w' := W) (fun g hg => ((hb.trans (hW.mono hb.size)).block g hg)) (fun _ _ => trivial)))⟩
              have Ca := Lib.hid (TA.out w10 be.out)
              clear h10 G10 U3 U4 U2 k10 z10 LS LT hu4 R4 k4 hab est erc C10 oke okl xs9 hl0 hs0 P0 P1 TA ht
              go_wp2_with fail
              refine Ca.out.mono ?_
              rintro e wa ⟨rfl, ba⟩
              have Cb := Lib.hid (textsof_any wa (.slice A1 st.length c1) st ((R1.out.below be.out).below ba) hst.out)
              have bea : Hid (Below w10.heap.size w10 wa) := ba
              clear Ca ba
              go_wp2_with fail
              refine Cb.out.mono ?_
              rintro e wb ⟨ub, rfl, ob, bb⟩
              have beb : Hid (Below w10.heap.size w10 wb) := bea.out.trans (bb.mono bea.out.size)
              have Cc := Lib.hid (Fr.texts_any wb (.slice S1 st.length s1) ub st (RS.out.below beb.out) (Fr.sr_own ob) (by have := hst.out; omega))
              clear Cb ob bb bea
              go_wp2_with fail
              refine Cc.out.mono ?_
              rintro e wc ⟨rfl, bc⟩
              have bec : Hid (Below w10.heap.size w10 wc) := beb.out.trans (bc.mono beb.out.size)
              have Cd := Lib.hid (textsof_any wc (.slice A1 st.length c1) st ((R1.out.below be.out).below bec.out) hst.out)
              clear Cc bc beb
              go_wp2_with fail
              refine Cd.out.mono ?_
              rintro e wd ⟨ud, rfl, od, bd⟩
              have bed : Hid (Below w10.heap.size w10 wd) := bec.out.trans (bd.mono bec.out.size)
              have Ce := Lib.hid (Fr.texts_any wd (.slice S3 st.length s3) ud st (RT.out.below bed.out) (Fr.sr_own od) (by have := hst.out; omega))
              clear Cd od bd bec
              go_wp2_with fail
              refine Ce.out.mono ?_
              rintro e we ⟨rfl, bE⟩
              have bee : Hid (Below w10.heap.size w10 we) := bed.out.trans (bE.mono bed.out.size)
              obtain ⟨kz, sz⟩ := FZ.out we bee.out
              have sz0 := sz we (Below.refl _ _)
              have yz := Dk.str_toList [122]
              have bef : Hid (Below w.heap.size w we) := be.out.trans (bee.out.mono be.out.size)
              clear Ce bE bed FZ sz RS RT R1
              go_wp2
              go_ret
              exact ⟨rfl, bef.out⟩
  · have G0 := N0
    by_cases h0 : n0 ≤ 8
    · have q0 : decide ((8 : Int) < (n0 : Int)) = false := decide_eq_false (by omega)
      have q1 : decide ((4 : Int) < (n1 : Int)) = true := decide_eq_true (by omega)
      clear T0 T1 G0 hz h0
      go_enter Tryd.func4, Tryd.ntmps4
      go_wp2_with fail
      refine N0.out.mono ?_
      rintro e w1 ⟨p, rfl, V1⟩
      have b1 : Hid (Below w.heap.size w w1) := V1.be
      have C1 := Lib.hid (TA.out w1 b1.out)
      clear N0 V1 TA
      go_wp2_with fail
      refine C1.out.mono ?_
      rintro e w2 ⟨rfl, hb⟩
      have b2 : Hid (Below w.heap.size w w2) := b1.out.trans (hb.mono b1.out.size)
      clear hb
      go_wp2
      go_ret
      exact ⟨rfl, b2.out⟩
    · have q0 : decide ((8 : Int) < (n0 : Int)) = true := decide_eq_true (by omega)
      clear T0 T1 G0 hz h0
      go_enter Tryd.func4, Tryd.ntmps4
      go_wp2_with fail
      refine N0.out.mono ?_
      rintro e w1 ⟨p, rfl, V1⟩
      have b1 : Hid (Below w.heap.size w w1) := V1.be
      have C1 := Lib.hid (TA.out w1 b1.out)
      clear N0 V1 TA
      go_wp2_with fail
      refine C1.out.mono ?_
      rintro e w2 ⟨rfl, hb⟩
      have b2 : Hid (Below w.heap.size w w2) := b1.out.trans (hb.mono b1.out.size)
      clear hb
      go_wp2
      go_ret
      exact ⟨rfl, b2.out⟩

theorem walkd (v0 : Value) (A0 : Option Addr) (n0 c0 : Nat) (l0 : List Bs) (e0 : v0 = .slice A0 n0 c0) (lc0 : n0 ≤ c0) (uc0 : c0 ≤ 9223372036854775807) {W' : World} (w0 : Txts W' W'.heap.size A0 n0 l0) (v1 : Value) (A1 : Option Addr) (n1 c1 : Nat) (l1 : List Bs) (e1 : v1 = .slice A1 n1 c1) (lc1 : n1 ≤ c1) (uc1 : c1 ≤ 9223372036854775807) (w1 : Txts W' W'.heap.size A1 n1 l1) (W : World) (hW : W = W') (ht : Tab W) :
    Calls Tryd.prog 4 #[v0, v1] W fun e w' => e = .returned (.bool true) ∧ Below W.heap.size W w' := by
  subst hW
  subst e0
  subst e1
  exact walk A0 n0 c0 l0 A1 n1 c1 l1 _ w0 w1 ht (by omega) (by omega)

/-! The row: every input, the listed variable as the condition has it. -/
set_option linter.unusedVariables false
set_option maxRecDepth 100000 in
theorem lifted (os : Os) (started : os.Started) (H : Type) (enc : TypeId × Value → H) :
    ReturnsInHanded {} Tryd.checked os 4 .any (fun w args => (Rows.sealElderSpec.pre enc Tryd.prog Tryd.f4 [] false w args ∧ laidMetH Tryd.prog laids w) ∧ sizedMet enc Tryd.prog Tryd.f4 (OpenSpec.ofChange Rows.sealElderSpec) false w args)
      (Rows.sealElderSpec.post enc Tryd.prog Tryd.f4 false true false false) := by
  refine returnsInHanded_of_change_and (C := Tryd.checked) (X := fun w _ => laidMetH Tryd.prog laids w) (fun _ _ _ hh h => h.of_heap hh) own started (by kernel_rfl) Tryd.func4
    (ChangeSpec.witness_shaped (enc := enc) (C := Tryd.checked) (os := os) (X := fun w _ => laidMetH Tryd.prog laids w) false (World.doorLaid Tryd.prog 400 os) #[.slice none 0 0, .slice none 0 0] 8 rfl (World.shaped_of_RefB (by kernel_rfl) (by kernel_rfl)) (by kernel_rfl) (by kernel_rfl) (by kernel_rfl) (door_met os _)) ?_
  intro W base args ds gs before hval0 hW _ _ hL _
  have hval : ∀ (j : Nat) t v, Tryd.f4.params[j]? = some t → args[j]? = some v → Value.okWide Tryd.prog W .any base t v := hval0
  have hW' := hW
  obtain ⟨p, q, hA0, hV, rfl, hfz, hnd⟩ := hW
  have hA : DataW.TrodAll enc Tryd.prog W 0 (fun _ => true) true Tryd.f4.params.toList args.toList ds p := hA0
  rw [Tryd.params4] at hA hval
  obtain ⟨v0, vs0, d0, ds0, p0, q0, hargs, rfl, rfl, h0, r0⟩ := trodAll_cons hA
  obtain ⟨v1, vs1, d1, ds1, p1, q1, rfl, rfl, rfl, h1, r1⟩ := trodAll_cons r0
  obtain ⟨rfl, rfl, rfl⟩ := trodAll_nil r1
  obtain rfl : args = #[v0, v1] := by cases args; simp_all
  obtain ⟨rfl, rfl⟩ := trodVars_none hV
  obtain ⟨A0, n0, c0, a0, e0, lc0, uc0, w0⟩ := view_texts (hval 0 27 v0 rfl rfl) h0
  obtain ⟨A1, n1, c1, a1, e1, lc1, uc1, w1⟩ := view_texts (hval 1 27 v1 rfl rfl) h1
  clear hA0 hval0
  simp only [List.append_nil] at hW'
  refine (walkd v0 A0 n0 c0 a0 e0 lc0 uc0 w0 v1 A1 n1 c1 a1 e1 lc1 uc1 w1 W rfl (of_laid hL)).mono fun e W' ⟨he, hb⟩ => ?_
  subst he
  exact ⟨_, rfl, post_below (pa := p0 ++ (p1 ++ [])) (pv := []) hW' (fun _ _ _ => (trodAll_cons_mk (shut_bool Tryd.underlying4 _) trodAll_mk0)) (fun sp hsp => (trodAll_cons_mk (Trod_stays laidOut (by kernel_rfl) (of_decide_eq_true (by kernel_rfl)) h0 (fun x hx => hb.same (hW'.lt x (by simp [hx]))) (fun x hx => hsp x (by simp [hx]))) (trodAll_cons_mk (Trod_stays laidOut (by kernel_rfl) (of_decide_eq_true (by kernel_rfl)) h1 (fun x hx => hb.same (hW'.lt x (by simp [hx]))) (fun x hx => hsp x (by simp [hx]))) trodAll_mk0))) (fun _ _ => rfl) (by simp)
    hb (ok_one (by kernel_rfl) rfl (okWide_bool_mk Tryd.underlying4 _))⟩

theorem over : Rows.sealElderRow.holds Tryd.pinned (OpenSpec.ofChange Rows.sealElderSpec) :=
  OpenClaim.holds_of_wide 4 Tryd.f4 rfl rfl rfl rfl rfl rfl rfl ⟨rfl, rfl, rfl, rfl, rfl⟩ rfl rfl rfl rfl rfl (by kernel_rfl) Tryd.func4 (by kernel_rfl)
    (of_decide_eq_true (by kernel_rfl)) (by unfold Func.isWrapper; first | (rw [if_pos (by decide +kernel)]; kernel_rfl) | (rw [if_neg (by decide +kernel)]; exact ⟨rfl, rfl⟩))
    (fun os started H enc _ => lifted os started H enc)

/-- The tied card. -/
theorem proved : Rows.SealElderCardSaid :=
  Claim7.holds_tied_plain_at .later [] [.data] true _ false
    over (fun _ h => by cases h) (by kernel_rfl) (fun _ h => by cases h) sealElder_row_tie rfl ⟨rfl, rfl⟩ (by kernel_rfl) rfl
    (fun f fn hf hfn => by
      obtain rfl : f = 4 := Option.some.inj ((show Tryd.prog.funcNamed "sojourn/sojournlaw6.SealElder" = some 4 by kernel_rfl).symm.trans hf) |>.symm
      obtain rfl : fn = Tryd.f4 := (Option.some.inj (Tryd.func4.symm.trans hfn)).symm
      exact ⟨by kernel_rfl, fun j t ht => by
        rw [Tryd.params4] at ht
        have hm : t ∈ [27, 27] := by simpa using Array.mem_of_getElem? ht
        have hall : ([27, 27].all fun u => !Tryd.prog.wantsStandIn u) = true := by kernel_rfl
        exact (show Tryd.prog.wantsStandIn t = false by simpa using List.all_eq_true.1 hall t hm)⟩)
    (by kernel_rfl)
#print axioms proved

end Go.Proofs.YtbolcapgocjgcaaDoor.sealElder
