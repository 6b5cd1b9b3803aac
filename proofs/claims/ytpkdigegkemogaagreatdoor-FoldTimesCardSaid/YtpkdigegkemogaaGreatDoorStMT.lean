/- Part of the claim: StM -/
import Derived.Test.YtpkdigegkemogaaGreatDoorPkXT
namespace Go.Proofs.YtpkdigegkemogaaGreatDoor
namespace St

structure E where
  st : Int
  un : Int
  ut : Int
deriving DecidableEq
def ez : E := ⟨0, 0, 0⟩
def eg : E := ⟨3, 0, 0⟩
abbrev F := Int → E
def fz : F := fun _ => ez
def upd (f : F) (b : Int) (e : E) : F := fun k => if k = b then e else f k
theorem upd_same (f : F) (b : Int) (e : E) : upd f b e b = e := by simp [upd]
theorem upd_other {f : F} {b k : Int} {e : E} (h : k ≠ b) : upd f b e k = f k := by simp [upd, h]
theorem upd_id {f : F} {b : Int} {e : E} (h : f b = e) : upd f b e = f := by
  funext k
  unfold upd
  split
  · rename_i hk
    rw [hk, h]
  · rfl

def part (g : Int → Int) : Nat → Int
  | 0 => 0
  | n + 1 => part g n + g ((n : Int) + 1)
section
variable {g g' : Int → Int}
theorem part_ext {n : Nat} (h : ∀ k : Int, 1 ≤ k → k ≤ n → g k = g' k) : part g n = part g' n := by
  induction n with
  | zero => rfl
  | succ n ih =>
    unfold part
    rw [ih fun k h1 h2 => h k h1 (by omega), h ((n : Int) + 1) (by omega) (by omega)]
theorem part_at {b : Int} (hne : ∀ k, k ≠ b → g' k = g k) {n : Nat} (h1 : 1 ≤ b) (h2 : b ≤ n) : part g' n = part g n + (g' b - g b) := by
  induction n with
  | zero => omega
  | succ n ih =>
    unfold part
    by_cases e : b = (n : Int) + 1
    · rw [part_ext (g := g') (g' := g) (n := n) fun k _ hk => hne k (by omega), e]
      omega
    · rw [ih (by omega), hne ((n : Int) + 1) (by omega)]
      omega
theorem part_nonneg (h : ∀ k, 0 ≤ g k) (n : Nat) : 0 ≤ part g n := by
  induction n with
  | zero => exact Int.le_refl _
  | succ n ih =>
    unfold part
    have := h ((n : Int) + 1)
    omega
theorem part_le (h : ∀ k, g k ≤ g' k) (n : Nat) : part g n ≤ part g' n := by
  induction n with
  | zero => exact Int.le_refl _
  | succ n ih =>
    unfold part
    have := h ((n : Int) + 1)
    omega
theorem part_mono (h : ∀ k, 0 ≤ g k) {m n : Nat} (hm : m ≤ n) : part g m ≤ part g n := by
  induction n with
  | zero =>
    obtain rfl : m = 0 := by omega
    exact Int.le_refl _
  | succ n ih =>
    by_cases e : m = n + 1
    · rw [e]; exact Int.le_refl _
    · have := ih (by omega)
      have := h ((n : Int) + 1)
      show part g m ≤ part g n + g ((n : Int) + 1)
      omega
theorem part_zero (n : Nat) : part (fun _ => 0) n = 0 := by
  induction n with
  | zero => rfl
  | succ n ih => unfold part; rw [ih]; rfl
theorem part_one_le (h : ∀ k, g k ≤ 1) (n : Nat) : part g n ≤ n := by
  induction n with
  | zero => exact Int.le_refl _
  | succ n ih =>
    unfold part
    have := h ((n : Int) + 1)
    omega
end
def hu (s : Int) (e : E) : Int := if e.st = s then e.un else 0
def uni (s : Int) (f : F) : Int := part (fun k => hu s (f k)) 200
def pre (e : E) : Bool := !decide (e.st = 0)
def cnt (f : F) : Int := part (fun k => if (f k).st = 0 then 0 else 1) 200
def room (cap over : Int) (f : F) : Int := cap + over - uni 1 f - uni 2 f
def tick (n : Int) : Bool := decide (0 ≤ n) && decide (n ≤ 1099511627776)
theorem tick_iff {n : Int} : tick n = true ↔ 0 ≤ n ∧ n ≤ 1099511627776 := by simp [tick]
def Shp (k : Int) (e : E) : Prop :=
  (e.st = 0 ∧ e.un = 0 ∧ e.ut = 0) ∨ (1 ≤ k ∧ k ≤ 200 ∧ ((e.st = 1 ∧ 1 ≤ e.un ∧ e.un ≤ 1000 ∧ 0 ≤ e.ut ∧ e.ut ≤ 1099511627836) ∨ (e.st = 2 ∧ 1 ≤ e.un ∧ e.un ≤ 1000 ∧ e.ut = 0) ∨ (e.st = 3 ∧ e.un = 0 ∧ e.ut = 0)))
structure Ok (cap over : Int) (f : F) : Prop where
  c0 : 0 ≤ cap
  c1 : cap ≤ 1000000
  o0 : 0 ≤ over
  o1 : over ≤ 1000000
  shp : ∀ k, Shp k (f k)
  fit : uni 1 f + uni 2 f ≤ cap + over
section
variable {cap over now : Int} {f : F} {b : Int} {e : E}
theorem e_eta {e : E} {a b c : Int} (h1 : e.st = a) (h2 : e.un = b) (h3 : e.ut = c) : e = ⟨a, b, c⟩ := by cases e; simp_all
theorem Shp.zero {k : Int} (h : Shp k e) (h0 : e.st = 0) : e = ez := by
  rcases h with h | ⟨_, _, h | h | h⟩
  · exact e_eta h.1 h.2.1 h.2.2
  all_goals omega
theorem Shp.gone {k : Int} (h : Shp k e) (h3 : e.st = 3) : e = eg := by
  rcases h with h | ⟨_, _, h | h | h⟩
  · omega
  · omega
  · omega
  · exact e_eta h.1 h.2.1 h.2.2
theorem Shp.bds {k : Int} (h : Shp k e) : 0 ≤ e.st ∧ e.st ≤ 3 ∧ 0 ≤ e.un ∧ e.un ≤ 1000 ∧ 0 ≤ e.ut ∧ e.ut ≤ 1099511627836 := by
  rcases h with h | ⟨_, _, h | h | h⟩ <;> omega
theorem Shp.inn {k : Int} (h : Shp k e) (h0 : e.st ≠ 0) : 1 ≤ k ∧ k ≤ 200 := by
  rcases h with h | ⟨h1, h2, _⟩
  · omega
  · exact ⟨h1, h2⟩
theorem Shp.hu0 {k s : Int} (h : Shp k e) : 0 ≤ hu s e ∧ hu s e ≤ 1000 := by
  have := h.bds
  unfold hu
  split <;> omega
theorem shp_z (k : Int) : Shp k ez := .inl ⟨rfl, rfl, rfl⟩
theorem shp_g {k : Int} (h1 : 1 ≤ k) (h2 : k ≤ 200) : Shp k eg := .inr ⟨h1, h2, .inr (.inr ⟨rfl, rfl, rfl⟩)⟩
theorem uni_upd (s : Int) (f : F) (e : E) (h1 : 1 ≤ b) (h2 : b ≤ 200) : uni s (upd f b e) = uni s f + (hu s e - hu s (f b)) := by
  unfold uni
  rw [part_at (g := fun k => hu s (f k)) (b := b) (fun k hk => by rw [upd_other hk]) h1 (by omega), upd_same]
theorem cnt_upd (f : F) (e : E) (h1 : 1 ≤ b) (h2 : b ≤ 200) : cnt (upd f b e) = cnt f + ((if e.st = 0 then 0 else 1) - (if (f b).st = 0 then 0 else 1)) := by
  unfold cnt
  rw [part_at (g := fun k => if (f k).st = 0 then 0 else 1) (b := b) (fun k hk => by rw [upd_other hk]) h1 (by omega), upd_same]
theorem cnt_le (f : F) : cnt f ≤ 200 := part_one_le (fun k => by split <;> omega) 200
theorem cnt_z : cnt fz = 0 := part_zero 200
theorem uni_z (s : Int) : uni s fz = 0 := by
  unfold uni
  rw [part_ext (g' := fun _ => 0) (fun k _ _ => by unfold hu fz ez; split <;> rfl), part_zero]
theorem Ok.uni0 (h : Ok cap over f) (s : Int) : 0 ≤ uni s f := part_nonneg (fun k => ((h.shp k).hu0 (s := s)).1) 200
theorem Ok.bds (h : Ok cap over f) : 0 ≤ uni 1 f ∧ 0 ≤ uni 2 f ∧ uni 1 f ≤ 2000000 ∧ uni 2 f ≤ 2000000 ∧ 0 ≤ room cap over f ∧ room cap over f ≤ 2000000 := by
  have := h.uni0 1
  have := h.uni0 2
  have := h.fit
  have := h.c1
  have := h.o1
  unfold room
  omega
theorem ok_z (c0 : 0 ≤ cap) (c1 : cap ≤ 1000000) (o0 : 0 ≤ over) (o1 : over ≤ 1000000) : Ok cap over fz := ⟨c0, c1, o0, o1, fun k => shp_z k, by rw [uni_z, uni_z]; omega⟩
theorem ok_upd (h : Ok cap over f) (h1 : 1 ≤ b) (h2 : b ≤ 200) (hs : Shp b e) (hf : hu 1 e + hu 2 e ≤ hu 1 (f b) + hu 2 (f b) + room cap over f) : Ok cap over (upd f b e) := by
  refine ⟨h.c0, h.c1, h.o0, h.o1, fun k => ?_, ?_⟩
  · by_cases hk : k = b
    · rw [hk, upd_same]; exact hs
    · rw [upd_other hk]; exact h.shp k
  · rw [uni_upd 1 f e h1 h2, uni_upd 2 f e h1 h2]
    unfold room at hf
    omega
theorem ok_gone (h : Ok cap over f) (h1 : 1 ≤ b) (h2 : b ≤ 200) : Ok cap over (upd f b eg) := by
  refine ok_upd h h1 h2 (shp_g h1 h2) ?_
  have := ((h.shp b).hu0 (s := 1)).1
  have := ((h.shp b).hu0 (s := 2)).1
  have := h.bds
  have e1 : hu 1 eg = 0 := by decide
  have e2 : hu 2 eg = 0 := by decide
  omega
theorem ok_hold {u : Int} (h : Ok cap over f) (h1 : 1 ≤ b) (h2 : b ≤ 200) (u1 : 1 ≤ u) (u2 : u ≤ 1000) (hr : u ≤ room cap over f) (ht : tick now = true) : Ok cap over (upd f b ⟨1, u, now + 60⟩) := by
  obtain ⟨t0, t1⟩ := tick_iff.1 ht
  refine ok_upd h h1 h2 (.inr ⟨h1, h2, .inl ⟨rfl, u1, u2, by show 0 ≤ now + 60; omega, by show now + 60 ≤ _; omega⟩⟩) ?_
  have := ((h.shp b).hu0 (s := 1)).1
  have := ((h.shp b).hu0 (s := 2)).1
  have e1 : hu 1 ⟨1, u, now + 60⟩ = u := by simp [hu]
  have e2 : hu 2 ⟨1, u, now + 60⟩ = 0 := by simp [hu]
  omega
theorem ok_conf (h : Ok cap over f) (h1 : 1 ≤ b) (h2 : b ≤ 200) (hs : (f b).st = 1) : Ok cap over (upd f b ⟨2, (f b).un, 0⟩) := by
  have hsh := h.shp b
  refine ok_upd h h1 h2 (.inr ⟨h1, h2, .inr (.inl ⟨rfl, ?_, ?_, rfl⟩)⟩) ?_
  · show 1 ≤ (f b).un
    rcases hsh with h | ⟨_, _, h | h | h⟩ <;> omega
  · show (f b).un ≤ 1000
    rcases hsh with h | ⟨_, _, h | h | h⟩ <;> omega
  · have := h.bds
    have := (hsh.hu0 (s := 2)).1
    have e1 : hu 1 ⟨2, (f b).un, 0⟩ = 0 := by simp [hu]
    have e2 : hu 2 ⟨2, (f b).un, 0⟩ = (f b).un := by simp [hu]
    have e3 : hu 1 (f b) = (f b).un := by simp [hu, hs]
    omega

def stp (cap over : Int) (f : F) (ok : Bool) (kind b u now : Int) : F × Int :=
  if ok = false then (f, 2)
  else if kind = 1 then
    if (f b).st = 0 then (if u ≤ room cap over f then (upd f b ⟨1, u, now + 60⟩, 1) else (upd f b eg, 2))
    else if (f b).st ≠ 3 ∧ (f b).un = u then (f, 1) else (f, 2)
  else if kind = 2 then
    if (f b).st = 2 then (f, 1)
    else if (f b).st = 1 ∧ now < (f b).ut then (upd f b ⟨2, (f b).un, 0⟩, 1)
    else (upd f b eg, 2)
  else if kind = 3 then (upd f b eg, 1)
  else (f, 2)
theorem ok_stp {ok : Bool} {kind u : Int} (h : Ok cap over f) (hb : ok = true → 1 ≤ b ∧ b ≤ 200) (hk : ok = true → kind = 1 → 1 ≤ u ∧ u ≤ 1000) (ht : ok = true → tick now = true) : Ok cap over (stp cap over f ok kind b u now).1 := by
  unfold stp
  cases ok with
  | false => exact h
  | true =>
    obtain ⟨h1, h2⟩ := hb rfl
    rw [if_neg (by simp)]
    split
    · rename_i k1
      obtain ⟨u1, u2⟩ := hk rfl k1
      split
      · split
        · rename_i hr
          exact ok_hold h h1 h2 u1 u2 hr (ht rfl)
        · exact ok_gone h h1 h2
      · split <;> exact h
    · split
      · split
        · exact h
        · split
          · rename_i hc
            exact ok_conf h h1 h2 hc.1
          · exact ok_gone h h1 h2
      · split
        · exact ok_gone h h1 h2
        · exact h

def ovr (now : Int) (e : E) : Bool := decide (e.st = 1) && decide (e.ut ≤ now)
def swp (f : F) (now : Int) : F := fun k => if ovr now (f k) = true then eg else f k
def rn (n : Nat) : List Int := (List.range n).map fun (i : Nat) => (i : Int) + 1
theorem rn_succ (n : Nat) : rn (n + 1) = rn n ++ [(n : Int) + 1] := by simp [rn, List.range_succ]
theorem mem_rn {n : Nat} {k : Int} : k ∈ rn n ↔ 1 ≤ k ∧ k ≤ n := by
  unfold rn
  rw [List.mem_map]
  constructor
  · rintro ⟨i, hi, rfl⟩
    rw [List.mem_range] at hi
    omega
  · rintro ⟨h1, h2⟩
    exact ⟨(k - 1).toNat, by rw [List.mem_range]; omega, by omega⟩
theorem rn_rise (n : Nat) : (rn n).Pairwise (· < ·) := by
  unfold rn
  rw [List.pairwise_map]
  exact (List.pairwise_lt_range (n := n)).imp fun {a b} h => by omega
def sel (p : E → Bool) (f : F) (n : Nat) : List Int := (rn n).filter fun k => p (f k)
def ovs (f : F) (now : Int) : List Int := sel (ovr now) f 200
theorem sel_rise (p : E → Bool) (f : F) (n : Nat) : (sel p f n).Pairwise (· < ·) := (rn_rise n).sublist List.filter_sublist
theorem sel_len (p : E → Bool) (f : F) (n : Nat) : (sel p f n).length ≤ n := by
  refine Nat.le_trans (List.length_filter_le _ _) ?_
  simp [rn]
theorem mem_sel {p : E → Bool} {n : Nat} {k : Int} : k ∈ sel p f n ↔ (1 ≤ k ∧ k ≤ n) ∧ p (f k) = true := by
  unfold sel
  rw [List.mem_filter, mem_rn]
theorem sel_succ (p : E → Bool) (f : F) (n : Nat) : sel p f (n + 1) = if p (f ((n : Int) + 1)) = true then sel p f n ++ [(n : Int) + 1] else sel p f n := by
  unfold sel
  rw [rn_succ, List.filter_append]
  split
  · rename_i h
    simp [h]
  · rename_i h
    simp [h]
def swl (f : F) (l : List Int) : F := fun k => if k ∈ l then eg else f k
theorem swl_nil (f : F) : swl f [] = f := by funext k; simp [swl]
theorem swl_snoc (f : F) (l : List Int) (b : Int) : swl f (l ++ [b]) = upd (swl f l) b eg := by
  funext k
  unfold swl upd
  by_cases h : k = b
  · simp [h]
  · simp [h]
theorem swl_ovs (h : Ok cap over f) (now : Int) : swl f (ovs f now) = swp f now := by
  funext k
  unfold swl swp ovs
  by_cases ho : ovr now (f k) = true
  · have hs : (f k).st = 1 := by
      unfold ovr at ho
      simp at ho
      exact ho.1
    obtain ⟨h1, h2⟩ := (h.shp k).inn (by omega)
    rw [if_pos (mem_sel.2 ⟨⟨h1, h2⟩, ho⟩), if_pos ho]
  · rw [if_neg (fun hm => ho (mem_sel.1 hm).2), if_neg ho]
theorem ok_swl_rev (h : Ok cap over f) : ∀ {l : List Int}, (∀ k ∈ l, 1 ≤ k ∧ k ≤ 200) → Ok cap over (swl f l.reverse)
  | [], _ => by rw [List.reverse_nil, swl_nil]; exact h
  | b :: l, hl => by
    rw [List.reverse_cons, swl_snoc]
    obtain ⟨h1, h2⟩ := hl b List.mem_cons_self
    exact ok_gone (ok_swl_rev h fun k hk => hl k (List.mem_cons_of_mem _ hk)) h1 h2
theorem ok_swl (h : Ok cap over f) {l : List Int} (hl : ∀ k ∈ l, 1 ≤ k ∧ k ≤ 200) : Ok cap over (swl f l) := by
  have := ok_swl_rev h (l := l.reverse) fun k hk => hl k (List.mem_reverse.1 hk)
  rwa [List.reverse_reverse] at this
def swn (f : F) (now : Int) (n : Nat) : F := swl f (sel (ovr now) f n)
theorem swn_succ (f : F) (now : Int) (n : Nat) : swn f now (n + 1) = if ovr now (f ((n : Int) + 1)) = true then upd (swn f now n) ((n : Int) + 1) eg else swn f now n := by
  unfold swn
  rw [sel_succ]
  split
  · rw [swl_snoc]
  · rfl
theorem swn_at (f : F) (now : Int) (n : Nat) : swn f now n ((n : Int) + 1) = f ((n : Int) + 1) := by
  unfold swn swl
  rw [if_neg (fun hm => by have := (mem_sel.1 hm).1.2; omega)]
theorem ok_swp (h : Ok cap over f) (now : Int) : Ok cap over (swp f now) := by
  rw [← swl_ovs h]
  exact ok_swl h fun k hk => by have := (mem_sel.1 hk).1; omega
def swF (f : F) (now : Int) : F := if tick now = true then swp f now else f
def swL (f : F) (now : Int) : List Int := if tick now = true then ovs f now else []
theorem ok_swF (h : Ok cap over f) (now : Int) : Ok cap over (swF f now) := by
  unfold swF
  split
  · exact ok_swp h now
  · exact h

abbrev Bs := List UInt8
def one (f : F) (k : Int) : Bs := Pk.encI k ++ Pk.encI (f k).st ++ Pk.encI (f k).un ++ Pk.encI (f k).ut
def many (f : F) (l : List Int) : Bs := l.flatMap (one f)
def bts (cap over : Int) (f : F) (n : Nat) : Bs := Pk.encI cap ++ Pk.encI over ++ many f (sel pre f n)
theorem many_snoc (f : F) (l : List Int) (k : Int) : many f (l ++ [k]) = many f l ++ one f k := by simp [many]
theorem bts_succ (cap over : Int) (f : F) (n : Nat) : bts cap over f (n + 1) = if pre (f ((n : Int) + 1)) = true then bts cap over f n ++ one f ((n : Int) + 1) else bts cap over f n := by
  unfold bts
  rw [sel_succ]
  split
  · rw [many_snoc]; simp
  · rfl
theorem one_len (h : Ok cap over f) (k : Int) (hk : -9223372036854775808 ≤ k ∧ k ≤ 9223372036854775807) : (one f k).length ≤ 40 := by
  have hb := (h.shp k).bds
  unfold one
  simp only [List.length_append]
  have := Pk.encI_len k hk.1 hk.2
  have := Pk.encI_len (f k).st (by omega) (by omega)
  have := Pk.encI_len (f k).un (by omega) (by omega)
  have := Pk.encI_len (f k).ut (by omega) (by omega)
  omega
theorem many_len (h : Ok cap over f) : ∀ (l : List Int), (∀ k ∈ l, 1 ≤ k ∧ k ≤ 200) → (many f l).length ≤ 40 * l.length
  | [], _ => by simp [many]
  | k :: r, hl => by
    have h1 := many_len h r fun x hx => hl x (List.mem_cons_of_mem _ hx)
    obtain ⟨k1, k2⟩ := hl k List.mem_cons_self
    have h2 := one_len h k ⟨by omega, by omega⟩
    have e : many f (k :: r) = one f k ++ many f r := by simp [many]
    rw [e, List.length_append, List.length_cons]
    omega
theorem bts_len (h : Ok cap over f) {n : Nat} (hn : n ≤ 200) : (bts cap over f n).length ≤ 8020 := by
  unfold bts
  simp only [List.length_append]
  have := Pk.encI_len cap (by have := h.c0; omega) (by have := h.c1; omega)
  have := Pk.encI_len over (by have := h.o0; omega) (by have := h.o1; omega)
  have h1 := many_len h (sel pre f n) fun k hk => by have := (mem_sel.1 hk).1; omega
  have h2 := sel_len pre f n
  omega
end
theorem sort_is {xs ys : List Int} (hx : xs.Nodup) (hy : ys.Pairwise (· < ·)) (h : ∀ x, x ∈ xs ↔ x ∈ ys) : (xs.mergeSort fun x y => decide (x ≤ y)) = ys := by
  have hy' : ys.Nodup := hy.imp fun {a b} h => by omega
  have tr : ∀ a b c : Int, decide (a ≤ b) = true → decide (b ≤ c) = true → decide (a ≤ c) = true := fun a b c h1 h2 => by
    rw [decide_eq_true_iff] at *
    omega
  have to : ∀ a b : Int, (decide (a ≤ b) || decide (b ≤ a)) = true := fun a b => by
    rw [Bool.or_eq_true, decide_eq_true_iff, decide_eq_true_iff]
    omega
  refine List.Perm.eq_of_pairwise (le := fun a b => decide (a ≤ b) = true) (fun a b _ _ h1 h2 => ?_) (List.pairwise_mergeSort tr to xs) (hy.imp fun {a b} h => by rw [decide_eq_true_iff]; omega) ((List.mergeSort_perm xs _).trans ((List.perm_ext_iff_of_nodup hx hy').2 h))
  rw [decide_eq_true_iff] at h1 h2
  omega
structure Col (p : E → Bool) (f : F) (left : Int → Bool) (xs : List Int) : Prop where
  nd : xs.Nodup
  mem : ∀ x, x ∈ xs ↔ ((1 ≤ x ∧ x ≤ 200) ∧ p (f x) = true) ∧ left x = false
section
variable {p : E → Bool} {f : F} {left left' : Int → Bool} {xs : List Int} {x : Int}
theorem Col.start (hp : p ez = false) (h : ∀ k, left k = false → f k = ez) : Col p f left [] :=
  ⟨List.nodup_nil, fun x => ⟨fun hx => (nomatch hx), fun ⟨⟨_, h1⟩, h2⟩ => by rw [h x h2, hp] at h1; cases h1⟩⟩
theorem Col.take (C : Col p f left xs) (hx : left x = true) (h' : ∀ z, left' z = (left z && !decide (z = x))) (hr : 1 ≤ x ∧ x ≤ 200) (hp : p (f x) = true) : Col p f left' (xs ++ [x]) := by
  refine ⟨List.nodup_append.2 ⟨C.nd, by simp, fun a ha b hb => ?_⟩, fun z => ?_⟩
  · rw [List.mem_singleton] at hb
    subst hb
    rintro rfl
    have := ((C.mem a).1 ha).2
    rw [hx] at this
    cases this
  · rw [List.mem_append, List.mem_singleton, C.mem z, h' z]
    by_cases e : z = x
    · subst e
      simp [hr, hp]
    · simp [e]
theorem Col.skip (C : Col p f left xs) (h' : ∀ z, left' z = (left z && !decide (z = x))) (hp : p (f x) = false) : Col p f left' xs := by
  refine ⟨C.nd, fun z => ?_⟩
  rw [C.mem z, h' z]
  by_cases e : z = x
  · subst e
    simp [hp]
  · simp [e]
theorem Col.sort (C : Col p f left xs) (h : ∀ k, left k = false) : (xs.mergeSort fun x y => decide (x ≤ y)) = sel p f 200 :=
  sort_is C.nd (sel_rise p f 200) fun x => by rw [C.mem x, mem_sel]; simp [h]
theorem Col.len (C : Col p f left xs) : xs.length ≤ 200 := by
  have hn : ((rn 200).filter fun k => p (f k) && !left k).Nodup := ((rn_rise 200).sublist List.filter_sublist).imp fun {a b} h => by omega
  have hp : xs.Perm ((rn 200).filter fun k => p (f k) && !left k) := (List.perm_ext_iff_of_nodup C.nd hn).2 fun x => by
    rw [C.mem x, List.mem_filter, mem_rn, Bool.and_eq_true, Bool.not_eq_true', and_assoc]
    rfl
  rw [hp.length_eq]
  refine Nat.le_trans (List.length_filter_le _ _) ?_
  simp [rn]
def so (s : Int) (f : F) (left : Int → Bool) : Int := part (fun k => if left k = true then 0 else hu s (f k)) 200
theorem so_start {s : Int} (h : ∀ k, left k = false → f k = ez) : so s f left = 0 := by
  unfold so
  rw [part_ext (g' := fun _ => 0) (fun k _ _ => ?_), part_zero]
  cases hk : left k
  · rw [h k hk]; unfold hu ez; simp only [Bool.false_eq_true, if_false]; split <;> rfl
  · rfl
theorem so_step {s : Int} (hx : left x = true) (h' : ∀ z, left' z = (left z && !decide (z = x))) (hr : 1 ≤ x ∧ x ≤ 200) : so s f left' = so s f left + hu s (f x) := by
  unfold so
  rw [part_at (g := fun k => if left k = true then 0 else hu s (f k)) (b := x) (fun k hk => by rw [h' k]; simp [hk]) hr.1 (by omega)]
  rw [h' x]
  simp [hx]
theorem so_end {s : Int} (h : ∀ k, left k = false) : so s f left = uni s f := part_ext fun k _ _ => by simp [h]
theorem so_bds {cap over s : Int} (hO : Ok cap over f) (hs : s = 1 ∨ s = 2) (left : Int → Bool) : 0 ≤ so s f left ∧ so s f left ≤ 2000000 := by
  have h0 : ∀ k, 0 ≤ hu s (f k) := fun k => ((hO.shp k).hu0 (s := s)).1
  constructor
  · exact part_nonneg (fun k => by
      split
      · exact Int.le_refl _
      · exact h0 k) 200
  · have h1 : so s f left ≤ uni s f := part_le (fun k => by
      split
      · exact h0 k
      · exact Int.le_refl _) 200
    have := hO.bds
    rcases hs with rfl | rfl <;> omega
end
end St
end Go.Proofs.YtpkdigegkemogaaGreatDoor
