/- A purse as plain values: accounts, bookings, moves; operations; bytes. No program. -/
import Derived.Test.YtchlbkfkecpodaaPkM
namespace Go.Proofs.Ytchlbkfkecpodaa
namespace Pu

structure E where
  st : Int
  cu : Int
  am : Int
deriving DecidableEq
structure Ln where
  bk : Int
  fr : Int
  tg : Int
  am : Int
deriving DecidableEq
def ez : E := ⟨0, 0, 0⟩
def eg : E := ⟨3, 0, 0⟩
abbrev F := Int → E
abbrev Ac := Int → Int
structure S where
  a : Ac
  f : F
  l : List Ln
def fz : F := fun _ => ez
section
variable {α : Type}
def upd (f : Int → α) (b : Int) (e : α) : Int → α := fun k => if k = b then e else f k
theorem upd_same (f : Int → α) (b : Int) (e : α) : upd f b e b = e := by simp [upd]
theorem upd_other {f : Int → α} {b k : Int} {e : α} (h : k ≠ b) : upd f b e k = f k := by simp [upd, h]
theorem upd_id {f : Int → α} {b : Int} {e : α} (h : f b = e) : upd f b e = f := by
  funext k
  unfold upd
  split
  · rename_i hk
    rw [hk, h]
  · rfl
end

/-! ### sums -/
def part (g : Int → Int) : Nat → Int
  | 0 => 0
  | n + 1 => part g n + g ((n : Int) + 1)
section
variable {g g' : Int → Int}
theorem part_ext {n : Nat} (h : ∀ k : Int, 1 ≤ k → k ≤ n → g k = g' k) : part g n = part g' n := by
  induction n with
  | zero => rfl
  | succ n ih =>
    unfold part
    rw [ih fun k h1 h2 => h k h1 (by omega), h ((n : Int) + 1) (by omega) (by omega)]
theorem part_at {b : Int} (hne : ∀ k, k ≠ b → g' k = g k) {n : Nat} (h1 : 1 ≤ b) (h2 : b ≤ n) : part g' n = part g n + (g' b - g b) := by
  induction n with
  | zero => omega
  | succ n ih =>
    unfold part
    by_cases e : b = (n : Int) + 1
    · rw [part_ext (g := g') (g' := g) (n := n) fun k _ hk => hne k (by omega), e]
      omega
    · rw [ih (by omega), hne ((n : Int) + 1) (by omega)]
      omega
theorem part_nonneg (h : ∀ k, 0 ≤ g k) (n : Nat) : 0 ≤ part g n := by
  induction n with
  | zero => exact Int.le_refl _
  | succ n ih =>
    unfold part
    have := h ((n : Int) + 1)
    omega
theorem part_ge (h : ∀ k, 0 ≤ g k) {n : Nat} {b : Int} (h1 : 1 ≤ b) (h2 : b ≤ n) : g b ≤ part g n := by
  induction n with
  | zero => omega
  | succ n ih =>
    unfold part
    by_cases e : b = (n : Int) + 1
    · have := part_nonneg h n
      rw [e]
      omega
    · have := ih (by omega)
      have := h ((n : Int) + 1)
      omega
theorem part_zero (n : Nat) : part (fun _ => 0) n = 0 := by
  induction n with
  | zero => rfl
  | succ n ih => unfold part; rw [ih]; rfl
theorem part_bound {B : Int} (h : ∀ k, g k ≤ B) (n : Nat) : part g n ≤ B * n := by
  induction n with
  | zero => simp [part]
  | succ n ih =>
    unfold part
    have := h ((n : Int) + 1)
    have e : B * ((n + 1 : Nat) : Int) = B * n + B := by rw [Int.natCast_add, Int.mul_add]; simp
    omega
end
def hu (s : Int) (e : E) : Int := if e.st = s then e.am else 0
def uni (s : Int) (f : F) : Int := part (fun k => hu s (f k)) 200
def pre (e : E) : Bool := !decide (e.st = 0)
def rank (e : E) : Int := if e.st = 0 then 0 else if e.st = 4 then 1 else if e.st = 5 then 2 else 3
def rk (f : F) : Int := part (fun k => rank (f k)) 200
theorem rank_bds (e : E) : 0 ≤ rank e ∧ rank e ≤ 3 := by unfold rank; split <;> (try split) <;> (try split) <;> omega
def Shp (k : Int) (e : E) : Prop :=
  (e.st = 0 ∧ e.cu = 0 ∧ e.am = 0) ∨ (1 ≤ k ∧ k ≤ 200 ∧ ((e.st = 3 ∧ e.cu = 0 ∧ e.am = 0) ∨ ((e.st = 4 ∨ e.st = 5) ∧ 0 ≤ e.cu ∧ e.cu ≤ 3 ∧ 0 ≤ e.am ∧ e.am ≤ 1099511627776)))
structure Ok (p : S) : Prop where
  pos : ∀ k, 0 ≤ k → k ≤ 3 → 0 ≤ p.a k
  res : p.a 4 = uni 4 p.f
  tak : p.a 5 = uni 5 p.f
  sum : p.a 0 + p.a 1 + p.a 2 + p.a 3 + p.a 4 + p.a 5 ≤ 4398046511104
  shp : ∀ k, Shp k (p.f k)
  len : (p.l.length : Int) ≤ rk p.f
def tot (p : S) : Int := p.a 0 + p.a 1 + p.a 2 + p.a 3 + p.a 4 + p.a 5
section
variable {f : F} {b : Int} {e : E} {p : S}
theorem e_eta {e : E} {a b c : Int} (h1 : e.st = a) (h2 : e.cu = b) (h3 : e.am = c) : e = ⟨a, b, c⟩ := by cases e; simp_all
theorem Shp.zero {k : Int} (h : Shp k e) (h0 : e.st = 0) : e = ez := by
  rcases h with h | ⟨_, _, h | h⟩
  · exact e_eta h.1 h.2.1 h.2.2
  all_goals omega
theorem Shp.gone {k : Int} (h : Shp k e) (h3 : e.st = 3) : e = eg := by
  rcases h with h | ⟨_, _, h | h⟩
  · omega
  · exact e_eta h.1 h.2.1 h.2.2
  · omega
theorem Shp.bds {k : Int} (h : Shp k e) : 0 ≤ e.st ∧ e.st ≤ 5 ∧ 0 ≤ e.cu ∧ e.cu ≤ 3 ∧ 0 ≤ e.am ∧ e.am ≤ 1099511627776 := by
  rcases h with h | ⟨_, _, h | h⟩ <;> omega
theorem Shp.inn {k : Int} (h : Shp k e) (h0 : e.st ≠ 0) : 1 ≤ k ∧ k ≤ 200 := by
  rcases h with h | ⟨h1, h2, _⟩
  · omega
  · exact ⟨h1, h2⟩
theorem Shp.st_ne {k : Int} (h : Shp k e) (h0 : e.st ≠ 0) : e.st = 3 ∨ e.st = 4 ∨ e.st = 5 := by
  rcases h with h | ⟨_, _, h | h⟩ <;> omega
theorem Shp.hu0 {k s : Int} (h : Shp k e) : 0 ≤ hu s e ∧ hu s e ≤ 1099511627776 := by
  have := h.bds
  unfold hu
  split <;> omega
theorem shp_z (k : Int) : Shp k ez := .inl ⟨rfl, rfl, rfl⟩
theorem shp_g {k : Int} (h1 : 1 ≤ k) (h2 : k ≤ 200) : Shp k eg := .inr ⟨h1, h2, .inl ⟨rfl, rfl, rfl⟩⟩
theorem shp_b {k s c m : Int} (h1 : 1 ≤ k) (h2 : k ≤ 200) (hs : s = 4 ∨ s = 5) (c0 : 0 ≤ c) (c1 : c ≤ 3) (m0 : 0 ≤ m) (m1 : m ≤ 1099511627776) : Shp k ⟨s, c, m⟩ := .inr ⟨h1, h2, .inr ⟨hs, c0, c1, m0, m1⟩⟩
theorem uni_upd (s : Int) (f : F) (e : E) (h1 : 1 ≤ b) (h2 : b ≤ 200) : uni s (upd f b e) = uni s f + (hu s e - hu s (f b)) := by
  unfold uni
  rw [part_at (g := fun k => hu s (f k)) (b := b) (fun k hk => by rw [upd_other hk]) h1 (by omega), upd_same]
theorem rk_upd (f : F) (e : E) (h1 : 1 ≤ b) (h2 : b ≤ 200) : rk (upd f b e) = rk f + (rank e - rank (f b)) := by
  unfold rk
  rw [part_at (g := fun k => rank (f k)) (b := b) (fun k hk => by rw [upd_other hk]) h1 (by omega), upd_same]
theorem rk_le (f : F) : rk f ≤ 600 := part_bound (B := 3) (fun _ => (rank_bds _).2) 200
theorem rk_z : rk fz = 0 := part_zero 200
theorem uni_z {s : Int} : uni s fz = 0 := by
  unfold uni
  rw [part_ext (g' := fun _ => 0) (fun k _ _ => by unfold hu fz ez; split <;> rfl), part_zero]
theorem Ok.few (h : Ok p) : p.l.length ≤ 600 := by have := h.len; have := rk_le p.f; omega
theorem Ok.uni0 (h : Ok p) (s : Int) : 0 ≤ uni s p.f := part_nonneg (fun k => ((h.shp k).hu0 (s := s)).1) 200
theorem Ok.bds (h : Ok p) {k : Int} (k0 : 0 ≤ k) (k5 : k ≤ 5) : 0 ≤ p.a k ∧ p.a k ≤ 4398046511104 := by
  have h0 := h.pos 0 (by omega) (by omega)
  have h1 := h.pos 1 (by omega) (by omega)
  have h2 := h.pos 2 (by omega) (by omega)
  have h3 := h.pos 3 (by omega) (by omega)
  have h4 := h.uni0 4
  have h5 := h.uni0 5
  have := h.sum
  rw [← h.res] at h4
  rw [← h.tak] at h5
  rcases (by omega : k = 0 ∨ k = 1 ∨ k = 2 ∨ k = 3 ∨ k = 4 ∨ k = 5) with rfl | rfl | rfl | rfl | rfl | rfl <;> omega
theorem Ok.at_st (h : Ok p) {b s : Int} (hs : s = 4 ∨ s = 5) (hst : (p.f b).st = s) : (p.f b).am ≤ p.a s := by
  obtain ⟨h1, h2⟩ := (h.shp b).inn (by omega)
  have := part_ge (g := fun k => hu s (p.f k)) (fun k => ((h.shp k).hu0 (s := s)).1) (n := 200) (b := b) h1 (by omega)
  have e : hu s (p.f b) = (p.f b).am := by simp [hu, hst]
  rw [e] at this
  rcases hs with rfl | rfl
  · rw [h.res]; exact this
  · rw [h.tak]; exact this

/-! ### what is done -/
def mvA (a : Ac) (fr tg am : Int) : Ac := upd (upd a fr (a fr - am)) tg (a tg + am)
def mv (p : S) (b fr tg am : Int) : S := ⟨mvA p.a fr tg am, p.f, p.l ++ [⟨b, fr, tg, am⟩]⟩
def put (p : S) (b : Int) (e : E) : S := ⟨p.a, upd p.f b e, p.l⟩
theorem mvA_to (a : Ac) (fr tg am : Int) : mvA a fr tg am tg = a tg + am := upd_same _ _ _
theorem mvA_fr (a : Ac) {fr tg : Int} (am : Int) (h : fr ≠ tg) : mvA a fr tg am fr = a fr - am := by rw [mvA, upd_other h, upd_same]
theorem mvA_not (a : Ac) {fr tg k : Int} (am : Int) (h : k ≠ fr) (h' : k ≠ tg) : mvA a fr tg am k = a k := by rw [mvA, upd_other h', upd_other h]
def auth (p : S) (b c m : Int) : S × Int :=
  if (p.f b).st = 0 then (if m ≤ p.a c then (put (mv p b c 4 m) b ⟨4, c, m⟩, 1) else (put p b eg, 2))
  else if (p.f b).st ≠ 3 ∧ (p.f b).cu = c ∧ (p.f b).am = m then (p, 1) else (p, 2)
def capt (p : S) (b : Int) : S × Int :=
  if (p.f b).st = 5 then (p, 1)
  else if (p.f b).st = 4 then (put (mv p b 4 5 (p.f b).am) b ⟨5, (p.f b).cu, (p.f b).am⟩, 1)
  else (put p b eg, 2)
def void (p : S) (b : Int) : S :=
  if (p.f b).st = 4 then put (mv p b 4 (p.f b).cu (p.f b).am) b eg
  else if (p.f b).st = 5 then put (mv p b 5 (p.f b).cu (p.f b).am) b eg
  else put p b eg
/-- By kind, where it may be. -/
def stp (p : S) (ok : Bool) (kind b c m : Int) : S × Int :=
  if ok = false then (p, 2)
  else if kind = 4 then auth p b c m
  else if kind = 5 then capt p b
  else if kind = 6 then (void p b, 1)
  else (p, 2)
theorem ok_end (h : Ok p) (h1 : 1 ≤ b) (h2 : b ≤ 200) (h4 : (p.f b).st ≠ 4) (h5 : (p.f b).st ≠ 5) : Ok (put p b eg) := by
  refine ⟨h.pos, ?_, ?_, h.sum, fun k => ?_, ?_⟩
  · show p.a 4 = uni 4 (upd p.f b eg)
    rw [uni_upd 4 p.f eg h1 h2, h.res]
    have e1 : hu 4 eg = 0 := by decide
    have e2 : hu 4 (p.f b) = 0 := by simp [hu, h4]
    omega
  · show p.a 5 = uni 5 (upd p.f b eg)
    rw [uni_upd 5 p.f eg h1 h2, h.tak]
    have e1 : hu 5 eg = 0 := by decide
    have e2 : hu 5 (p.f b) = 0 := by simp [hu, h5]
    omega
  · show Shp k (upd p.f b eg k)
    by_cases hk : k = b
    · rw [hk, upd_same]; exact shp_g h1 h2
    · rw [upd_other hk]; exact h.shp k
  · show (p.l.length : Int) ≤ rk (upd p.f b eg)
    rw [rk_upd p.f eg h1 h2]
    have := h.len
    have := (rank_bds (p.f b)).2
    have e1 : rank eg = 3 := by decide
    omega
theorem shp_upd {f : F} (h : ∀ k, Shp k (f k)) (hs : Shp b e) (k : Int) : Shp k (upd f b e k) := by
  by_cases hk : k = b
  · rw [hk, upd_same]; exact hs
  · rw [upd_other hk]; exact h k
theorem len_upd (h : Ok p) (h1 : 1 ≤ b) (h2 : b ≤ 200) (hr : rank (p.f b) < rank e) (x : Ln) : ((p.l ++ [x]).length : Int) ≤ rk (upd p.f b e) := by
  rw [rk_upd p.f e h1 h2, List.length_append]
  have := h.len
  simp only [List.length_singleton]
  omega
theorem ok_auth {c m : Int} (h : Ok p) (h1 : 1 ≤ b) (h2 : b ≤ 200) (h0 : (p.f b).st = 0) (c0 : 0 ≤ c) (c1 : c ≤ 3) (m0 : 0 ≤ m) (m1 : m ≤ 1099511627776) (hm : m ≤ p.a c) : Ok (put (mv p b c 4 m) b ⟨4, c, m⟩) := by
  have hu4 : hu 4 ⟨4, c, m⟩ = m := by simp [hu]
  have hu5 : hu 5 ⟨4, c, m⟩ = 0 := by simp [hu]
  have z4 : hu 4 (p.f b) = 0 := by simp [hu, h0]
  have z5 : hu 5 (p.f b) = 0 := by simp [hu, h0]
  refine ⟨fun k k0 k3 => ?_, ?_, ?_, ?_, shp_upd (f := p.f) h.shp (shp_b h1 h2 (.inl rfl) c0 c1 m0 m1), len_upd h h1 h2 (by unfold rank; simp [h0]) _⟩
  · show 0 ≤ mvA p.a c 4 m k
    by_cases hk : k = c
    · rw [hk, mvA_fr _ _ (by omega)]; omega
    · rw [mvA_not _ _ hk (by omega)]; exact h.pos k k0 k3
  · show mvA p.a c 4 m 4 = uni 4 (upd p.f b _)
    rw [uni_upd 4 p.f _ h1 h2, mvA_to, h.res]
    omega
  · show mvA p.a c 4 m 5 = uni 5 (upd p.f b _)
    rw [uni_upd 5 p.f _ h1 h2, mvA_not _ _ (by omega) (by omega), h.tak]
    omega
  · show mvA p.a c 4 m 0 + mvA p.a c 4 m 1 + mvA p.a c 4 m 2 + mvA p.a c 4 m 3 + mvA p.a c 4 m 4 + mvA p.a c 4 m 5 ≤ _
    have := h.sum
    rcases (by omega : c = 0 ∨ c = 1 ∨ c = 2 ∨ c = 3) with rfl | rfl | rfl | rfl <;> (simp [mvA, upd] at *; omega)
theorem ok_capt (h : Ok p) (h4 : (p.f b).st = 4) : Ok (put (mv p b 4 5 (p.f b).am) b ⟨5, (p.f b).cu, (p.f b).am⟩) := by
  obtain ⟨h1, h2⟩ := (h.shp b).inn (by omega)
  obtain ⟨-, -, c0, c1, m0, m1⟩ := (h.shp b).bds
  have hle := h.at_st (.inl rfl) h4
  have hu4 : hu 4 ⟨5, (p.f b).cu, (p.f b).am⟩ = 0 := by simp [hu]
  have hu5 : hu 5 ⟨5, (p.f b).cu, (p.f b).am⟩ = (p.f b).am := by simp [hu]
  have z4 : hu 4 (p.f b) = (p.f b).am := by simp [hu, h4]
  have z5 : hu 5 (p.f b) = 0 := by simp [hu, h4]
  refine ⟨fun k k0 k3 => ?_, ?_, ?_, ?_, shp_upd (f := p.f) h.shp (shp_b h1 h2 (.inr rfl) c0 c1 m0 m1), len_upd h h1 h2 (by unfold rank; simp [h4]) _⟩
  · show 0 ≤ mvA p.a 4 5 _ k
    rw [mvA_not _ _ (by omega) (by omega)]; exact h.pos k k0 k3
  · show mvA p.a 4 5 _ 4 = uni 4 (upd p.f b _)
    rw [uni_upd 4 p.f _ h1 h2, mvA_fr _ _ (by omega), h.res]
    omega
  · show mvA p.a 4 5 _ 5 = uni 5 (upd p.f b _)
    rw [uni_upd 5 p.f _ h1 h2, mvA_to, h.tak]
    omega
  · show mvA p.a 4 5 (p.f b).am 0 + mvA p.a 4 5 (p.f b).am 1 + mvA p.a 4 5 (p.f b).am 2 + mvA p.a 4 5 (p.f b).am 3 + mvA p.a 4 5 (p.f b).am 4 + mvA p.a 4 5 (p.f b).am 5 ≤ _
    have := h.sum
    simp [mvA, upd] at *
    omega
theorem ok_void {s : Int} (h : Ok p) (hs : s = 4 ∨ s = 5) (h4 : (p.f b).st = s) : Ok (put (mv p b s (p.f b).cu (p.f b).am) b eg) := by
  obtain ⟨h1, h2⟩ := (h.shp b).inn (by omega)
  obtain ⟨-, -, c0, c1, m0, m1⟩ := (h.shp b).bds
  have hle := h.at_st hs h4
  have g4 : hu 4 eg = 0 := by decide
  have g5 : hu 5 eg = 0 := by decide
  generalize (p.f b).cu = c at *
  have z : hu s (p.f b) = (p.f b).am := by simp [hu, h4]
  generalize hm : (p.f b).am = m at *
  refine ⟨fun k k0 k3 => ?_, ?_, ?_, ?_, shp_upd (f := p.f) h.shp (shp_g h1 h2), len_upd h h1 h2 (by rcases hs with rfl | rfl <;> (unfold rank; simp [h4, eg])) _⟩
  · show 0 ≤ mvA p.a s c m k
    by_cases hk : k = c
    · rw [hk, mvA_to]; have := h.pos c c0 c1; omega
    · rw [mvA_not _ _ (by omega) hk]; exact h.pos k k0 k3
  · show mvA p.a s c m 4 = uni 4 (upd p.f b _)
    rw [uni_upd 4 p.f _ h1 h2]
    rcases hs with rfl | rfl
    · rw [mvA_fr _ _ (by omega), h.res]; omega
    · have z4 : hu 4 (p.f b) = 0 := by simp [hu, h4]
      rw [mvA_not _ _ (by omega) (by omega), h.res]; omega
  · show mvA p.a s c m 5 = uni 5 (upd p.f b _)
    rw [uni_upd 5 p.f _ h1 h2]
    rcases hs with rfl | rfl
    · have z5 : hu 5 (p.f b) = 0 := by simp [hu, h4]
      rw [mvA_not _ _ (by omega) (by omega), h.tak]; omega
    · rw [mvA_fr _ _ (by omega), h.tak]; omega
  · show mvA p.a s c m 0 + mvA p.a s c m 1 + mvA p.a s c m 2 + mvA p.a s c m 3 + mvA p.a s c m 4 + mvA p.a s c m 5 ≤ _
    have := h.sum
    rcases hs with rfl | rfl <;> rcases (by omega : c = 0 ∨ c = 1 ∨ c = 2 ∨ c = 3) with rfl | rfl | rfl | rfl <;> (simp [mvA, upd] at *; omega)
theorem ok_authS {c m : Int} (h : Ok p) (h1 : 1 ≤ b) (h2 : b ≤ 200) (c0 : 0 ≤ c) (c1 : c ≤ 3) (m0 : 0 ≤ m) (m1 : m ≤ 1099511627776) : Ok (auth p b c m).1 := by
  unfold auth
  split
  · rename_i h0
    split
    · rename_i hm
      exact ok_auth h h1 h2 h0 c0 c1 m0 m1 hm
    · exact ok_end h h1 h2 (by omega) (by omega)
  · split <;> exact h
theorem ok_captS (h : Ok p) (h1 : 1 ≤ b) (h2 : b ≤ 200) : Ok (capt p b).1 := by
  unfold capt
  split
  · exact h
  · split
    · rename_i h4
      exact ok_capt h h4
    · exact ok_end h h1 h2 (by omega) (by omega)
theorem ok_voidS (h : Ok p) (h1 : 1 ≤ b) (h2 : b ≤ 200) : Ok (void p b) := by
  unfold void
  split
  · rename_i h4
    exact ok_void h (.inl rfl) h4
  · split
    · rename_i h5
      exact ok_void h (.inr rfl) h5
    · exact ok_end h h1 h2 (by omega) (by omega)
theorem ok_stp {ok : Bool} {kind c m : Int} (h : Ok p) (hb : ok = true → 1 ≤ b ∧ b ≤ 200) (hc : ok = true → kind = 4 → (0 ≤ c ∧ c ≤ 3) ∧ 0 ≤ m ∧ m ≤ 1099511627776) : Ok (stp p ok kind b c m).1 := by
  unfold stp
  cases ok with
  | false => exact h
  | true =>
    obtain ⟨h1, h2⟩ := hb rfl
    rw [if_neg (by simp)]
    split
    · rename_i k4
      obtain ⟨⟨c0, c1⟩, m0, m1⟩ := hc rfl k4
      exact ok_authS h h1 h2 c0 c1 m0 m1
    · split
      · exact ok_captS h h1 h2
      · split
        · exact ok_voidS h h1 h2
        · exact h

/-! ### bytes -/
abbrev Bs := List UInt8
def cat (zs : List Int) : Bs := zs.flatMap Pk.encI
theorem cat_nil : cat [] = [] := rfl
theorem cat_app (a b : List Int) : cat (a ++ b) = cat a ++ cat b := by simp [cat]
theorem cat_snoc {zs : List Int} {k : Nat} {z : Int} (h : zs[k]? = some z) : cat (zs.take (k + 1)) = cat (zs.take k) ++ Pk.encI z := by
  obtain ⟨hl, rfl⟩ := List.getElem?_eq_some_iff.1 h
  rw [List.take_succ_eq_append_getElem hl, cat_app]
  simp [cat]
theorem cat_len (zs : List Int) (h : ∀ z ∈ zs, 0 ≤ z ∧ z ≤ 4000000000000000000) : (cat zs).length ≤ 10 * zs.length := by
  induction zs with
  | nil => simp [cat]
  | cons z zs ih =>
    have e : cat (z :: zs) = Pk.encI z ++ cat zs := by simp [cat]
    rw [e, List.length_append]
    have h1 := h z (by simp)
    have := Pk.encI_len z (by omega) (by omega)
    have := ih (fun y hy => h y (by simp [hy]))
    simp only [List.length_cons]
    omega
def acs (a : Ac) : List Int := [a 0, a 1, a 2, a 3, a 4, a 5]
def one (f : F) (k : Int) : Bs := cat [k, (f k).st, (f k).cu, (f k).am]
/-- The bytes of the accounts and of the bookings 1 to n. -/
def bts (p : S) : Nat → Bs
  | 0 => cat (acs p.a)
  | n + 1 => if pre (p.f ((n : Int) + 1)) = true then bts p n ++ one p.f ((n : Int) + 1) else bts p n
theorem one_len (h : Ok p) {k : Int} (h1 : 0 ≤ k) (h2 : k ≤ 200) : (one p.f k).length ≤ 40 := by
  have hb := (h.shp k).bds
  refine cat_len [k, (p.f k).st, (p.f k).cu, (p.f k).am] fun z hz => ?_
  simp at hz
  omega
theorem acs_bds (h : Ok p) : ∀ z ∈ acs p.a, 0 ≤ z ∧ z ≤ 4398046511104 := fun z hz => by
  simp [acs] at hz
  rcases hz with rfl | rfl | rfl | rfl | rfl | rfl <;> exact h.bds (by omega) (by omega)
theorem bts_len (h : Ok p) {n : Nat} (hn : n ≤ 200) : (bts p n).length ≤ 60 + 40 * n := by
  induction n with
  | zero =>
    have := cat_len (acs p.a) fun z hz => by have := acs_bds h z hz; omega
    simpa [bts, acs] using this
  | succ n ih =>
    have := ih (by omega)
    unfold bts
    split
    · rw [List.length_append]
      have := one_len h (k := (n : Int) + 1) (by omega) (by omega)
      omega
    · omega
end
/-- A purse that is new. -/
def new (f0 f1 f2 f3 : Int) : S := ⟨fun k => if k = 0 then f0 else if k = 1 then f1 else if k = 2 then f2 else if k = 3 then f3 else 0, fz, []⟩
theorem ok_new {f0 f1 f2 f3 : Int} (h0 : 0 ≤ f0 ∧ f0 ≤ 1099511627776) (h1 : 0 ≤ f1 ∧ f1 ≤ 1099511627776) (h2 : 0 ≤ f2 ∧ f2 ≤ 1099511627776) (h3 : 0 ≤ f3 ∧ f3 ≤ 1099511627776) : Ok (new f0 f1 f2 f3) := by
  refine ⟨fun k k0 k3 => ?_, ?_, ?_, ?_, fun k => shp_z k, ?_⟩
  · rcases (by omega : k = 0 ∨ k = 1 ∨ k = 2 ∨ k = 3) with rfl | rfl | rfl | rfl
    · exact h0.1
    · exact h1.1
    · exact h2.1
    · exact h3.1
  · show (0 : Int) = uni 4 fz
    rw [uni_z]
  · show (0 : Int) = uni 5 fz
    rw [uni_z]
  · show f0 + f1 + f2 + f3 + 0 + 0 ≤ _
    omega
  · show (0 : Int) ≤ rk fz
    rw [rk_z]
    exact Int.le_refl _
end Pu
end Go.Proofs.Ytchlbkfkecpodaa
