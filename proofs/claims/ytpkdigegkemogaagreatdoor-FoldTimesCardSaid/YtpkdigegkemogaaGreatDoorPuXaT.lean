/- Parts of the claim: PuM, PuA -/
import Derived.Deep.MidRow
import Derived.Maps.AppendAt
import Derived.Lib.Hide
import Derived.Laws.ResultCell
import Derived.Deep.CutRange
import Derived.Deep.CutBlock
import Derived.Deep.QuietTactic
import Derived.BigQuiet
import Derived.Lib.QuietBelow
import Derived.Deep.RegionLaw
import Derived.BigRegion
import Derived.RegionTactic
import Derived.StillTailTactics
import Derived.Test.YtpkdigegkemogaaGreatDoorPkXT
namespace Go.Proofs.YtpkdigegkemogaaGreatDoor
namespace Pu

structure E where
  st : Int
  cu : Int
  am : Int
deriving DecidableEq
structure Ln where
  bk : Int
  fr : Int
  tg : Int
  am : Int
deriving DecidableEq
def ez : E := ⟨0, 0, 0⟩
def eg : E := ⟨3, 0, 0⟩
abbrev F := Int → E
abbrev Ac := Int → Int
structure S where
  a : Ac
  f : F
  l : List Ln
def fz : F := fun _ => ez
section
variable {α : Type}
def upd (f : Int → α) (b : Int) (e : α) : Int → α := fun k => if k = b then e else f k
theorem upd_same (f : Int → α) (b : Int) (e : α) : upd f b e b = e := by simp [upd]
theorem upd_other {f : Int → α} {b k : Int} {e : α} (h : k ≠ b) : upd f b e k = f k := by simp [upd, h]
end

def part (g : Int → Int) : Nat → Int
  | 0 => 0
  | n + 1 => part g n + g ((n : Int) + 1)
section
variable {g g' : Int → Int}
theorem part_ext {n : Nat} (h : ∀ k : Int, 1 ≤ k → k ≤ n → g k = g' k) : part g n = part g' n := by
  induction n with
  | zero => rfl
  | succ n ih =>
    unfold part
    rw [ih fun k h1 h2 => h k h1 (by omega), h ((n : Int) + 1) (by omega) (by omega)]
theorem part_at {b : Int} (hne : ∀ k, k ≠ b → g' k = g k) {n : Nat} (h1 : 1 ≤ b) (h2 : b ≤ n) : part g' n = part g n + (g' b - g b) := by
  induction n with
  | zero => omega
  | succ n ih =>
    unfold part
    by_cases e : b = (n : Int) + 1
    · rw [part_ext (g := g') (g' := g) (n := n) fun k _ hk => hne k (by omega), e]
      omega
    · rw [ih (by omega), hne ((n : Int) + 1) (by omega)]
      omega
theorem part_nonneg (h : ∀ k, 0 ≤ g k) (n : Nat) : 0 ≤ part g n := by
  induction n with
  | zero => exact Int.le_refl _
  | succ n ih =>
    unfold part
    have := h ((n : Int) + 1)
    omega
theorem part_ge (h : ∀ k, 0 ≤ g k) {n : Nat} {b : Int} (h1 : 1 ≤ b) (h2 : b ≤ n) : g b ≤ part g n := by
  induction n with
  | zero => omega
  | succ n ih =>
    unfold part
    by_cases e : b = (n : Int) + 1
    · have := part_nonneg h n
      rw [e]
      omega
    · have := ih (by omega)
      have := h ((n : Int) + 1)
      omega
theorem part_zero (n : Nat) : part (fun _ => 0) n = 0 := by
  induction n with
  | zero => rfl
  | succ n ih => unfold part; rw [ih]; rfl
theorem part_bound {B : Int} (h : ∀ k, g k ≤ B) (n : Nat) : part g n ≤ B * n := by
  induction n with
  | zero => simp [part]
  | succ n ih =>
    unfold part
    have := h ((n : Int) + 1)
    have e : B * ((n + 1 : Nat) : Int) = B * n + B := by rw [Int.natCast_add, Int.mul_add]; simp
    omega
end
def hu (s : Int) (e : E) : Int := if e.st = s then e.am else 0
def uni (s : Int) (f : F) : Int := part (fun k => hu s (f k)) 200
def pre (e : E) : Bool := !decide (e.st = 0)
def rank (e : E) : Int := if e.st = 0 then 0 else if e.st = 4 then 1 else if e.st = 5 then 2 else 3
def rk (f : F) : Int := part (fun k => rank (f k)) 200
theorem rank_bds (e : E) : 0 ≤ rank e ∧ rank e ≤ 3 := by unfold rank; split <;> (try split) <;> (try split) <;> omega
def Shp (k : Int) (e : E) : Prop :=
  (e.st = 0 ∧ e.cu = 0 ∧ e.am = 0) ∨ (1 ≤ k ∧ k ≤ 200 ∧ ((e.st = 3 ∧ e.cu = 0 ∧ e.am = 0) ∨ ((e.st = 4 ∨ e.st = 5) ∧ 0 ≤ e.cu ∧ e.cu ≤ 3 ∧ 0 ≤ e.am ∧ e.am ≤ 1099511627776)))
structure Ok (p : S) : Prop where
  pos : ∀ k, 0 ≤ k → k ≤ 3 → 0 ≤ p.a k
  res : p.a 4 = uni 4 p.f
  tak : p.a 5 = uni 5 p.f
  sum : p.a 0 + p.a 1 + p.a 2 + p.a 3 + p.a 4 + p.a 5 ≤ 4398046511104
  shp : ∀ k, Shp k (p.f k)
  len : (p.l.length : Int) ≤ rk p.f
section
variable {f : F} {b : Int} {e : E} {p : S}
theorem e_eta {e : E} {a b c : Int} (h1 : e.st = a) (h2 : e.cu = b) (h3 : e.am = c) : e = ⟨a, b, c⟩ := by cases e; simp_all
theorem Shp.zero {k : Int} (h : Shp k e) (h0 : e.st = 0) : e = ez := by
  rcases h with h | ⟨_, _, h | h⟩
  · exact e_eta h.1 h.2.1 h.2.2
  all_goals omega
theorem Shp.bds {k : Int} (h : Shp k e) : 0 ≤ e.st ∧ e.st ≤ 5 ∧ 0 ≤ e.cu ∧ e.cu ≤ 3 ∧ 0 ≤ e.am ∧ e.am ≤ 1099511627776 := by
  rcases h with h | ⟨_, _, h | h⟩ <;> omega
theorem Shp.inn {k : Int} (h : Shp k e) (h0 : e.st ≠ 0) : 1 ≤ k ∧ k ≤ 200 := by
  rcases h with h | ⟨h1, h2, _⟩
  · omega
  · exact ⟨h1, h2⟩
theorem Shp.hu0 {k s : Int} (h : Shp k e) : 0 ≤ hu s e ∧ hu s e ≤ 1099511627776 := by
  have := h.bds
  unfold hu
  split <;> omega
theorem shp_z (k : Int) : Shp k ez := .inl ⟨rfl, rfl, rfl⟩
theorem shp_g {k : Int} (h1 : 1 ≤ k) (h2 : k ≤ 200) : Shp k eg := .inr ⟨h1, h2, .inl ⟨rfl, rfl, rfl⟩⟩
theorem shp_b {k s c m : Int} (h1 : 1 ≤ k) (h2 : k ≤ 200) (hs : s = 4 ∨ s = 5) (c0 : 0 ≤ c) (c1 : c ≤ 3) (m0 : 0 ≤ m) (m1 : m ≤ 1099511627776) : Shp k ⟨s, c, m⟩ := .inr ⟨h1, h2, .inr ⟨hs, c0, c1, m0, m1⟩⟩
theorem uni_upd (s : Int) (f : F) (e : E) (h1 : 1 ≤ b) (h2 : b ≤ 200) : uni s (upd f b e) = uni s f + (hu s e - hu s (f b)) := by
  unfold uni
  rw [part_at (g := fun k => hu s (f k)) (b := b) (fun k hk => by rw [upd_other hk]) h1 (by omega), upd_same]
theorem rk_upd (f : F) (e : E) (h1 : 1 ≤ b) (h2 : b ≤ 200) : rk (upd f b e) = rk f + (rank e - rank (f b)) := by
  unfold rk
  rw [part_at (g := fun k => rank (f k)) (b := b) (fun k hk => by rw [upd_other hk]) h1 (by omega), upd_same]
theorem rk_le (f : F) : rk f ≤ 600 := part_bound (B := 3) (fun _ => (rank_bds _).2) 200
theorem rk_z : rk fz = 0 := part_zero 200
theorem uni_z {s : Int} : uni s fz = 0 := by
  unfold uni
  rw [part_ext (g' := fun _ => 0) (fun k _ _ => by unfold hu fz ez; split <;> rfl), part_zero]
theorem Ok.few (h : Ok p) : p.l.length ≤ 600 := by have := h.len; have := rk_le p.f; omega
theorem Ok.uni0 (h : Ok p) (s : Int) : 0 ≤ uni s p.f := part_nonneg (fun k => ((h.shp k).hu0 (s := s)).1) 200
theorem Ok.bds (h : Ok p) {k : Int} (k0 : 0 ≤ k) (k5 : k ≤ 5) : 0 ≤ p.a k ∧ p.a k ≤ 4398046511104 := by
  have h0 := h.pos 0 (by omega) (by omega)
  have h1 := h.pos 1 (by omega) (by omega)
  have h2 := h.pos 2 (by omega) (by omega)
  have h3 := h.pos 3 (by omega) (by omega)
  have h4 := h.uni0 4
  have h5 := h.uni0 5
  have := h.sum
  rw [← h.res] at h4
  rw [← h.tak] at h5
  rcases (by omega : k = 0 ∨ k = 1 ∨ k = 2 ∨ k = 3 ∨ k = 4 ∨ k = 5) with rfl | rfl | rfl | rfl | rfl | rfl <;> omega
theorem Ok.at_st (h : Ok p) {b s : Int} (hs : s = 4 ∨ s = 5) (hst : (p.f b).st = s) : (p.f b).am ≤ p.a s := by
  obtain ⟨h1, h2⟩ := (h.shp b).inn (by omega)
  have := part_ge (g := fun k => hu s (p.f k)) (fun k => ((h.shp k).hu0 (s := s)).1) (n := 200) (b := b) h1 (by omega)
  have e : hu s (p.f b) = (p.f b).am := by simp [hu, hst]
  rw [e] at this
  rcases hs with rfl | rfl
  · rw [h.res]; exact this
  · rw [h.tak]; exact this

def mvA (a : Ac) (fr tg am : Int) : Ac := upd (upd a fr (a fr - am)) tg (a tg + am)
def mv (p : S) (b fr tg am : Int) : S := ⟨mvA p.a fr tg am, p.f, p.l ++ [⟨b, fr, tg, am⟩]⟩
def put (p : S) (b : Int) (e : E) : S := ⟨p.a, upd p.f b e, p.l⟩
theorem mvA_to (a : Ac) (fr tg am : Int) : mvA a fr tg am tg = a tg + am := upd_same _ _ _
theorem mvA_fr (a : Ac) {fr tg : Int} (am : Int) (h : fr ≠ tg) : mvA a fr tg am fr = a fr - am := by rw [mvA, upd_other h, upd_same]
theorem mvA_not (a : Ac) {fr tg k : Int} (am : Int) (h : k ≠ fr) (h' : k ≠ tg) : mvA a fr tg am k = a k := by rw [mvA, upd_other h', upd_other h]
def auth (p : S) (b c m : Int) : S × Int :=
  if (p.f b).st = 0 then (if m ≤ p.a c then (put (mv p b c 4 m) b ⟨4, c, m⟩, 1) else (put p b eg, 2))
  else if (p.f b).st ≠ 3 ∧ (p.f b).cu = c ∧ (p.f b).am = m then (p, 1) else (p, 2)
def capt (p : S) (b : Int) : S × Int :=
  if (p.f b).st = 5 then (p, 1)
  else if (p.f b).st = 4 then (put (mv p b 4 5 (p.f b).am) b ⟨5, (p.f b).cu, (p.f b).am⟩, 1)
  else (put p b eg, 2)
def void (p : S) (b : Int) : S :=
  if (p.f b).st = 4 then put (mv p b 4 (p.f b).cu (p.f b).am) b eg
  else if (p.f b).st = 5 then put (mv p b 5 (p.f b).cu (p.f b).am) b eg
  else put p b eg
def stp (p : S) (ok : Bool) (kind b c m : Int) : S × Int :=
  if ok = false then (p, 2)
  else if kind = 4 then auth p b c m
  else if kind = 5 then capt p b
  else if kind = 6 then (void p b, 1)
  else (p, 2)
theorem ok_end (h : Ok p) (h1 : 1 ≤ b) (h2 : b ≤ 200) (h4 : (p.f b).st ≠ 4) (h5 : (p.f b).st ≠ 5) : Ok (put p b eg) := by
  refine ⟨h.pos, ?_, ?_, h.sum, fun k => ?_, ?_⟩
  · show p.a 4 = uni 4 (upd p.f b eg)
    rw [uni_upd 4 p.f eg h1 h2, h.res]
    have e1 : hu 4 eg = 0 := by decide
    have e2 : hu 4 (p.f b) = 0 := by simp [hu, h4]
    omega
  · show p.a 5 = uni 5 (upd p.f b eg)
    rw [uni_upd 5 p.f eg h1 h2, h.tak]
    have e1 : hu 5 eg = 0 := by decide
    have e2 : hu 5 (p.f b) = 0 := by simp [hu, h5]
    omega
  · show Shp k (upd p.f b eg k)
    by_cases hk : k = b
    · rw [hk, upd_same]; exact shp_g h1 h2
    · rw [upd_other hk]; exact h.shp k
  · show (p.l.length : Int) ≤ rk (upd p.f b eg)
    rw [rk_upd p.f eg h1 h2]
    have := h.len
    have := (rank_bds (p.f b)).2
    have e1 : rank eg = 3 := by decide
    omega
theorem shp_upd {f : F} (h : ∀ k, Shp k (f k)) (hs : Shp b e) (k : Int) : Shp k (upd f b e k) := by
  by_cases hk : k = b
  · rw [hk, upd_same]; exact hs
  · rw [upd_other hk]; exact h k
theorem len_upd (h : Ok p) (h1 : 1 ≤ b) (h2 : b ≤ 200) (hr : rank (p.f b) < rank e) (x : Ln) : ((p.l ++ [x]).length : Int) ≤ rk (upd p.f b e) := by
  rw [rk_upd p.f e h1 h2, List.length_append]
  have := h.len
  simp only [List.length_singleton]
  omega
theorem ok_auth {c m : Int} (h : Ok p) (h1 : 1 ≤ b) (h2 : b ≤ 200) (h0 : (p.f b).st = 0) (c0 : 0 ≤ c) (c1 : c ≤ 3) (m0 : 0 ≤ m) (m1 : m ≤ 1099511627776) (hm : m ≤ p.a c) : Ok (put (mv p b c 4 m) b ⟨4, c, m⟩) := by
  have hu4 : hu 4 ⟨4, c, m⟩ = m := by simp [hu]
  have hu5 : hu 5 ⟨4, c, m⟩ = 0 := by simp [hu]
  have z4 : hu 4 (p.f b) = 0 := by simp [hu, h0]
  have z5 : hu 5 (p.f b) = 0 := by simp [hu, h0]
  refine ⟨fun k k0 k3 => ?_, ?_, ?_, ?_, shp_upd (f := p.f) h.shp (shp_b h1 h2 (.inl rfl) c0 c1 m0 m1), len_upd h h1 h2 (by unfold rank; simp [h0]) _⟩
  · show 0 ≤ mvA p.a c 4 m k
    by_cases hk : k = c
    · rw [hk, mvA_fr _ _ (by omega)]; omega
    · rw [mvA_not _ _ hk (by omega)]; exact h.pos k k0 k3
  · show mvA p.a c 4 m 4 = uni 4 (upd p.f b _)
    rw [uni_upd 4 p.f _ h1 h2, mvA_to, h.res]
    omega
  · show mvA p.a c 4 m 5 = uni 5 (upd p.f b _)
    rw [uni_upd 5 p.f _ h1 h2, mvA_not _ _ (by omega) (by omega), h.tak]
    omega
  · show mvA p.a c 4 m 0 + mvA p.a c 4 m 1 + mvA p.a c 4 m 2 + mvA p.a c 4 m 3 + mvA p.a c 4 m 4 + mvA p.a c 4 m 5 ≤ _
    have := h.sum
    rcases (by omega : c = 0 ∨ c = 1 ∨ c = 2 ∨ c = 3) with rfl | rfl | rfl | rfl <;> (simp [mvA, upd] at *; omega)
theorem ok_capt (h : Ok p) (h4 : (p.f b).st = 4) : Ok (put (mv p b 4 5 (p.f b).am) b ⟨5, (p.f b).cu, (p.f b).am⟩) := by
  obtain ⟨h1, h2⟩ := (h.shp b).inn (by omega)
  obtain ⟨-, -, c0, c1, m0, m1⟩ := (h.shp b).bds
  have hle := h.at_st (.inl rfl) h4
  have hu4 : hu 4 ⟨5, (p.f b).cu, (p.f b).am⟩ = 0 := by simp [hu]
  have hu5 : hu 5 ⟨5, (p.f b).cu, (p.f b).am⟩ = (p.f b).am := by simp [hu]
  have z4 : hu 4 (p.f b) = (p.f b).am := by simp [hu, h4]
  have z5 : hu 5 (p.f b) = 0 := by simp [hu, h4]
  refine ⟨fun k k0 k3 => ?_, ?_, ?_, ?_, shp_upd (f := p.f) h.shp (shp_b h1 h2 (.inr rfl) c0 c1 m0 m1), len_upd h h1 h2 (by unfold rank; simp [h4]) _⟩
  · show 0 ≤ mvA p.a 4 5 _ k
    rw [mvA_not _ _ (by omega) (by omega)]; exact h.pos k k0 k3
  · show mvA p.a 4 5 _ 4 = uni 4 (upd p.f b _)
    rw [uni_upd 4 p.f _ h1 h2, mvA_fr _ _ (by omega), h.res]
    omega
  · show mvA p.a 4 5 _ 5 = uni 5 (upd p.f b _)
    rw [uni_upd 5 p.f _ h1 h2, mvA_to, h.tak]
    omega
  · show mvA p.a 4 5 (p.f b).am 0 + mvA p.a 4 5 (p.f b).am 1 + mvA p.a 4 5 (p.f b).am 2 + mvA p.a 4 5 (p.f b).am 3 + mvA p.a 4 5 (p.f b).am 4 + mvA p.a 4 5 (p.f b).am 5 ≤ _
    have := h.sum
    simp [mvA, upd] at *
    omega
theorem ok_void {s : Int} (h : Ok p) (hs : s = 4 ∨ s = 5) (h4 : (p.f b).st = s) : Ok (put (mv p b s (p.f b).cu (p.f b).am) b eg) := by
  obtain ⟨h1, h2⟩ := (h.shp b).inn (by omega)
  obtain ⟨-, -, c0, c1, m0, m1⟩ := (h.shp b).bds
  have hle := h.at_st hs h4
  have g4 : hu 4 eg = 0 := by decide
  have g5 : hu 5 eg = 0 := by decide
  generalize (p.f b).cu = c at *
  have z : hu s (p.f b) = (p.f b).am := by simp [hu, h4]
  generalize hm : (p.f b).am = m at *
  refine ⟨fun k k0 k3 => ?_, ?_, ?_, ?_, shp_upd (f := p.f) h.shp (shp_g h1 h2), len_upd h h1 h2 (by rcases hs with rfl | rfl <;> (unfold rank; simp [h4, eg])) _⟩
  · show 0 ≤ mvA p.a s c m k
    by_cases hk : k = c
    · rw [hk, mvA_to]; have := h.pos c c0 c1; omega
    · rw [mvA_not _ _ (by omega) hk]; exact h.pos k k0 k3
  · show mvA p.a s c m 4 = uni 4 (upd p.f b _)
    rw [uni_upd 4 p.f _ h1 h2]
    rcases hs with rfl | rfl
    · rw [mvA_fr _ _ (by omega), h.res]; omega
    · have z4 : hu 4 (p.f b) = 0 := by simp [hu, h4]
      rw [mvA_not _ _ (by omega) (by omega), h.res]; omega
  · show mvA p.a s c m 5 = uni 5 (upd p.f b _)
    rw [uni_upd 5 p.f _ h1 h2]
    rcases hs with rfl | rfl
    · have z5 : hu 5 (p.f b) = 0 := by simp [hu, h4]
      rw [mvA_not _ _ (by omega) (by omega), h.tak]; omega
    · rw [mvA_fr _ _ (by omega), h.tak]; omega
  · show mvA p.a s c m 0 + mvA p.a s c m 1 + mvA p.a s c m 2 + mvA p.a s c m 3 + mvA p.a s c m 4 + mvA p.a s c m 5 ≤ _
    have := h.sum
    rcases hs with rfl | rfl <;> rcases (by omega : c = 0 ∨ c = 1 ∨ c = 2 ∨ c = 3) with rfl | rfl | rfl | rfl <;> (simp [mvA, upd] at *; omega)
abbrev Bs := List UInt8
def cat (zs : List Int) : Bs := zs.flatMap Pk.encI
theorem cat_len (zs : List Int) (h : ∀ z ∈ zs, 0 ≤ z ∧ z ≤ 4000000000000000000) : (cat zs).length ≤ 10 * zs.length := by
  induction zs with
  | nil => simp [cat]
  | cons z zs ih =>
    have e : cat (z :: zs) = Pk.encI z ++ cat zs := by simp [cat]
    rw [e, List.length_append]
    have h1 := h z (by simp)
    have := Pk.encI_len z (by omega) (by omega)
    have := ih (fun y hy => h y (by simp [hy]))
    simp only [List.length_cons]
    omega
def acs (a : Ac) : List Int := [a 0, a 1, a 2, a 3, a 4, a 5]
def one (f : F) (k : Int) : Bs := cat [k, (f k).st, (f k).cu, (f k).am]
def bts (p : S) : Nat → Bs
  | 0 => cat (acs p.a)
  | n + 1 => if pre (p.f ((n : Int) + 1)) = true then bts p n ++ one p.f ((n : Int) + 1) else bts p n
theorem one_len (h : Ok p) {k : Int} (h1 : 0 ≤ k) (h2 : k ≤ 200) : (one p.f k).length ≤ 40 := by
  have hb := (h.shp k).bds
  refine cat_len [k, (p.f k).st, (p.f k).cu, (p.f k).am] fun z hz => ?_
  simp at hz
  omega
theorem acs_bds (h : Ok p) : ∀ z ∈ acs p.a, 0 ≤ z ∧ z ≤ 4398046511104 := fun z hz => by
  simp [acs] at hz
  rcases hz with rfl | rfl | rfl | rfl | rfl | rfl <;> exact h.bds (by omega) (by omega)
theorem bts_len (h : Ok p) {n : Nat} (hn : n ≤ 200) : (bts p n).length ≤ 60 + 40 * n := by
  induction n with
  | zero =>
    have := cat_len (acs p.a) fun z hz => by have := acs_bds h z hz; omega
    simpa [bts, acs] using this
  | succ n ih =>
    have := ih (by omega)
    unfold bts
    split
    · rw [List.length_append]
      have := one_len h (k := (n : Int) + 1) (by omega) (by omega)
      omega
    · omega
end
def new (f0 f1 f2 f3 : Int) : S := ⟨fun k => if k = 0 then f0 else if k = 1 then f1 else if k = 2 then f2 else if k = 3 then f3 else 0, fz, []⟩
theorem ok_new {f0 f1 f2 f3 : Int} (h0 : 0 ≤ f0 ∧ f0 ≤ 1099511627776) (h1 : 0 ≤ f1 ∧ f1 ≤ 1099511627776) (h2 : 0 ≤ f2 ∧ f2 ≤ 1099511627776) (h3 : 0 ≤ f3 ∧ f3 ≤ 1099511627776) : Ok (new f0 f1 f2 f3) := by
  refine ⟨fun k k0 k3 => ?_, ?_, ?_, ?_, fun k => shp_z k, ?_⟩
  · rcases (by omega : k = 0 ∨ k = 1 ∨ k = 2 ∨ k = 3) with rfl | rfl | rfl | rfl
    · exact h0.1
    · exact h1.1
    · exact h2.1
    · exact h3.1
  · show (0 : Int) = uni 4 fz
    rw [uni_z]
  · show (0 : Int) = uni 5 fz
    rw [uni_z]
  · show f0 + f1 + f2 + f3 + 0 + 0 ≤ _
    omega
  · show (0 : Int) ≤ rk fz
    rw [rk_z]
    exact Int.le_refl _
end Pu
end Go.Proofs.YtpkdigegkemogaaGreatDoor
namespace Go.Proofs.YtpkdigegkemogaaGreatDoor
set_option maxRecDepth 100000
open Go.RowKit
open Go.Proofs.YtpkdigegkemogaaGreatDoor.Pk (one_at one_free one_set lt_some grown_set grown_trans grown_refl)
namespace Pu

structure Kq (S : Nat → Prop) (w w' : World) : Prop where
  os : w'.os = w.os
  tape : w'.tape = w.tape
  output : w'.output = w.output
  size : w.heap.size ≤ w'.heap.size
  block : ∀ g, g < w.heap.size → ¬ S g → w'.heap[g]? = w.heap[g]?
def grq (S : Nat → Prop) (w w' : World) : Nat → Prop := fun g => S g ∨ (w.heap.size ≤ g ∧ g < w'.heap.size)
section
variable {S S' : Nat → Prop} {w w' w1 w2 : World}
theorem Kq.trans (h : Kq S w w1) (k : Kq (grq S w w1) w1 w2) : Kq S w w2 :=
  ⟨k.os.trans h.os, k.tape.trans h.tape, k.output.trans h.output, Nat.le_trans h.size k.size, fun g hg hn =>
    (k.block g (Nat.lt_of_lt_of_le hg h.size) (fun e => by
      rcases e with e | ⟨e, _⟩
      · exact hn e
      · omega)).trans (h.block g hg hn)⟩
theorem Kq.mono (h : Kq S w w') (hs : ∀ g, S g → S' g) : Kq S' w w' := ⟨h.os, h.tape, h.output, h.size, fun g hg hn => h.block g hg fun e => hn (hs g e)⟩
theorem Kq.of_below (h : Below w.heap.size w w') : Kq S w w' := ⟨h.os, h.tape, h.output, h.size, fun g hg _ => h.block g hg⟩
theorem Kq.below {B : Nat} (h : Kq S w w') (hS : ∀ g, S g → B ≤ g) (hB : B ≤ w.heap.size) : Below B w w' :=
  ⟨h.os, h.tape, h.output, h.size, fun g hg => h.block g (by omega) fun e => by have := hS g e; omega⟩
theorem Kq.drew (h : Kq S w w') : Kq S w w'.drew := ⟨h.os, h.tape, h.output, h.size, h.block⟩
theorem grq_grq (h1 : w.heap.size ≤ w1.heap.size) (h2 : w1.heap.size ≤ w2.heap.size) : grq (grq S w w1) w1 w2 = grq S w w2 := by
  funext g
  unfold grq
  apply propext
  constructor
  · rintro ((h | ⟨h, h'⟩) | ⟨h, h'⟩)
    · exact .inl h
    · exact .inr ⟨h, by omega⟩
    · exact .inr ⟨by omega, h'⟩
  · rintro (h | ⟨h, h'⟩)
    · exact .inl (.inl h)
    · by_cases e : g < w1.heap.size
      · exact .inl (.inr ⟨h, e⟩)
      · exact .inr ⟨by omega, h'⟩
end
theorem setCells_block (p : Nat) : ∀ (vs : List Value) (o : Nat) (w : World), (w.setCells p o vs).heap.size = w.heap.size ∧ (w.setCells p o vs).os = w.os ∧ (w.setCells p o vs).tape = w.tape ∧ (w.setCells p o vs).output = w.output ∧ ∀ g, g ≠ p → (w.setCells p o vs).heap[g]? = w.heap[g]?
  | [], _, _ => ⟨rfl, rfl, rfl, rfl, fun _ _ => rfl⟩
  | v :: r, o, w => by
    obtain ⟨h1, h2, h3, h4, h5⟩ := setCells_block p r (o + 1) (w.setCell ⟨p, o, none⟩ v)
    rw [World.setCells]
    exact ⟨h1.trans (by simp [World.setCell]), h2, h3, h4, fun g hg => (h5 g hg).trans (Below.heap_setCell _ _ _ _ (fun e => hg e))⟩
theorem Kq.of_cells (w : World) (p o : Nat) (vs : List Value) : Kq (fun g => g = p) w (w.setCells p o vs) := by
  obtain ⟨h1, h2, h3, h4, h5⟩ := setCells_block p vs o w
  exact ⟨h2, h3, h4, by omega, fun g _ hn => h5 g hn⟩

structure Kt (q : Nat) (S : Nat → Prop) (w w' : World) : Prop extends Kq S w w' where
  tail : ∀ i, 1012 ≤ i → w'.cell? ⟨q, i, none⟩ = w.cell? ⟨q, i, none⟩
  form : ∀ cs ty, w.heap[q]? = some (.cells cs ty (0, 0)) → ∃ cs', w'.heap[q]? = some (.cells cs' ty (0, 0))
theorem setCells_form (p : Nat) : ∀ (vs : List Value) (o : Nat) (w : World) (cs : Array Value) (t : TypeId), w.heap[p]? = some (.cells cs t (0, 0)) → ∃ cs', (w.setCells p o vs).heap[p]? = some (.cells cs' t (0, 0))
  | [], _, _, cs, _, h => ⟨cs, h⟩
  | v :: r, o, w, cs, t, h => by
    rw [World.setCells]
    exact setCells_form p r (o + 1) _ _ t (one_set h v)
section
variable {S S' : Nat → Prop} {w w' w1 w2 : World} {q : Nat}
theorem Kt.trans (h : Kt q S w w1) (k : Kt q (grq S w w1) w1 w2) : Kt q S w w2 := ⟨h.toKq.trans k.toKq, fun i hi => (k.tail i hi).trans (h.tail i hi), fun cs ty e => by
    obtain ⟨cs', e'⟩ := h.form cs ty e
    exact k.form cs' ty e'⟩
theorem Kt.mono (h : Kt q S w w') (hs : ∀ g, S g → S' g) : Kt q S' w w' := ⟨h.toKq.mono hs, h.tail, h.form⟩
theorem Kt.self (h : Kt q S w w1) (k : Kt q S w1 w2) : Kt q S w w2 := h.trans (k.mono fun _ e => .inl e)
theorem Kt.of_below (hq : q < w.heap.size) (h : Below w.heap.size w w') : Kt q S w w' := ⟨.of_below h, fun _ _ => World.cell?_of_block (h.block q hq), fun cs _ e => ⟨cs, (h.block q hq).trans e⟩⟩
theorem Kt.drew (h : Kt q S w w') : Kt q S w w'.drew := ⟨h.toKq.drew, h.tail, h.form⟩
theorem Kt.of_cells (w : World) (p o : Nat) (vs : List Value) (h : o + vs.length ≤ 1012) : Kt p (fun g => g = p) w (w.setCells p o vs) :=
  ⟨.of_cells w p o vs, fun i hi => World.cell?_setCells_out p vs o w ⟨p, i, none⟩ (fun _ _ => .inr (by show o + vs.length ≤ i; omega)), fun cs ty e => setCells_form p vs o w cs ty e⟩
end

def entc (e : E) : List Value := [.int .i64 e.st, .int .i64 0, .int .i64 0, .int .i64 e.cu, .int .i64 e.am]
def ents (f : F) : Nat → List Value
  | 0 => []
  | n + 1 => ents f n ++ entc (f (n : Int))
theorem ents_len (f : F) (n : Nat) : (ents f n).length = 5 * n := by
  induction n with
  | zero => rfl
  | succ n ih => unfold ents; rw [List.length_append, ih]; show 5 * n + 5 = _; omega
theorem ents_at (f : F) {n k j : Nat} (hk : k < n) (hj : j < 5) : (ents f n)[5 * k + j]? = (entc (f (k : Int)))[j]? := by
  induction n with
  | zero => omega
  | succ n ih =>
    unfold ents
    by_cases e : k = n
    · subst e
      rw [List.getElem?_append_right (by rw [ents_len]; omega), ents_len]
      congr 1
      omega
    · rw [List.getElem?_append_left (by rw [ents_len]; omega), ih (by omega)]
def accs (a : Ac) : List Value := [.int .i64 (a 0), .int .i64 (a 1), .int .i64 (a 2), .int .i64 (a 3), .int .i64 (a 4), .int .i64 (a 5)]
theorem accs_at (a : Ac) {k : Nat} (hk : k ≤ 5) : (accs a)[k]? = some (.int .i64 (a (k : Int))) := by
  rcases (by omega : k = 0 ∨ k = 1 ∨ k = 2 ∨ k = 3 ∨ k = 4 ∨ k = 5) with rfl | rfl | rfl | rfl | rfl | rfl <;> rfl
def pcs (p : S) (v : Value) : List Value := accs p.a ++ (ents p.f 201 ++ [v])
theorem pcs_len (p : S) (v : Value) : (pcs p v).length = 1012 := by simp [pcs, accs, ents_len]
theorem pcs_acc (p : S) (v : Value) {k : Nat} (hk : k ≤ 5) : (pcs p v)[k]? = some (.int .i64 (p.a (k : Int))) := by
  unfold pcs
  rw [List.getElem?_append_left (by show k < 6; omega), accs_at _ hk]
theorem pcs_ent (p : S) (v : Value) {k j : Nat} (hk : k ≤ 200) (hj : j < 5) : (pcs p v)[6 + k * 5 + j]? = (entc (p.f (k : Int)))[j]? := by
  unfold pcs
  rw [List.getElem?_append_right (by show 6 ≤ _; omega)]
  have e : 6 + k * 5 + j - (accs p.a).length = 5 * k + j := by show 6 + k * 5 + j - 6 = _; omega
  rw [e, List.getElem?_append_left (by rw [ents_len]; omega), ents_at _ (by omega) hj]
theorem pcs_lin (p : S) (v : Value) : (pcs p v)[1011]? = some v := by
  unfold pcs
  rw [List.getElem?_append_right (by show 6 ≤ _; omega), List.getElem?_append_right (by rw [ents_len]; show 5 * 201 ≤ 1011 - 6; omega), ents_len]
  rfl
structure Pm (w : World) (q : Nat) (p : S) (v : Value) : Prop where
  lt : q < w.heap.size
  acc : ∀ k : Nat, k ≤ 5 → w.cell? ⟨q, k, none⟩ = some (.int .i64 (p.a (k : Int)))
  ent : ∀ k : Nat, k ≤ 200 → w.rangeAt q (6 + k * 5) (entc (p.f (k : Int)))
  lin : w.cell? ⟨q, 1011, none⟩ = some v
  free : ∀ i, w.frozen? ⟨q, i, none⟩ = false
section
variable {w w' : World} {q : Nat} {p : S} {v : Value}
theorem Pm.of_row {t : TypeId} {r : List Value} (h : w.heap[q]? = some (.cells (pcs p v ++ r).toArray t (0, 0))) : Pm w q p v := by
  have e : ∀ j : Nat, j < 1012 → w.cell? ⟨q, j, none⟩ = (pcs p v)[j]? := fun j hj => by
    rw [one_at (i := j) h, List.getElem?_toArray, List.getElem?_append_left (by rw [pcs_len]; exact hj)]
  exact ⟨lt_some h, fun k hk => by rw [e k (by omega), pcs_acc p v hk], fun k hk j u hj => by
    have h5 : j < 5 := (List.getElem?_eq_some_iff.1 hj).1
    rw [e _ (by omega), pcs_ent p v hk h5, hj], by rw [e 1011 (by omega), pcs_lin], fun i => one_free h⟩
theorem Pm.of_block {t : TypeId} (h : w.heap[q]? = some (.cells (pcs p v).toArray t (0, 0))) : Pm w q p v := .of_row (r := []) (by rw [List.append_nil]; exact h)
theorem Pm.keep (D : Pm w q p v) (h : w'.heap[q]? = w.heap[q]?) : Pm w' q p v := by
  have e : ∀ i, w'.cell? ⟨q, i, none⟩ = w.cell? ⟨q, i, none⟩ := fun i => World.cell?_of_block h
  refine ⟨?_, fun k hk => (e k).trans (D.acc k hk), fun k hk j u hj => (e _).trans (D.ent k hk j u hj), (e _).trans D.lin, fun i => ?_⟩
  · have := Array.getElem?_eq_getElem D.lt
    rw [← h] at this
    exact lt_some this
  · have := D.free i
    unfold World.frozen? at this ⊢
    simp only [h]
    exact this
theorem Pm.below (D : Pm w q p v) (hb : Below w.heap.size w w') : Pm w' q p v := D.keep (hb.block _ D.lt)
theorem Pm.st (D : Pm w q p v) {k : Nat} (hk : k ≤ 200) : w.cell? ⟨q, 6 + k * 5, none⟩ = some (.int .i64 (p.f k).st) := D.ent k hk 0 _ rfl
theorem Pm.z1 (D : Pm w q p v) {k : Nat} (hk : k ≤ 200) : w.cell? ⟨q, 6 + k * 5 + 1, none⟩ = some (.int .i64 0) := D.ent k hk 1 _ rfl
theorem Pm.z2 (D : Pm w q p v) {k : Nat} (hk : k ≤ 200) : w.cell? ⟨q, 6 + k * 5 + 2, none⟩ = some (.int .i64 0) := D.ent k hk 2 _ rfl
theorem Pm.cu (D : Pm w q p v) {k : Nat} (hk : k ≤ 200) : w.cell? ⟨q, 6 + k * 5 + 3, none⟩ = some (.int .i64 (p.f k).cu) := D.ent k hk 3 _ rfl
theorem Pm.am (D : Pm w q p v) {k : Nat} (hk : k ≤ 200) : w.cell? ⟨q, 6 + k * 5 + 4, none⟩ = some (.int .i64 (p.f k).am) := D.ent k hk 4 _ rfl
theorem Pm.there (D : Pm w q p v) {k : Nat} (hk : k ≤ 200) : w.there q (6 + k * 5) 5 := fun j hj => ⟨(D.ent k hk).isSome j hj, D.free _⟩
theorem Pm.put (D : Pm w q p v) {k : Nat} (hk : k ≤ 200) (e : E) : Pm (w.setCells q (6 + k * 5) (entc e)) q (put p (k : Int) e) v := by
  refine ⟨by rw [(setCells_block q _ _ w).1]; exact D.lt, fun j hj => ?_, fun j hj => ?_, ?_, fun i => ?_⟩
  · rw [World.cell?_setCells_out q _ _ w ⟨q, j, none⟩ (fun _ _ => .inl (by show j < 6 + k * 5; omega))]
    exact D.acc j hj
  · show World.rangeAt _ _ _ (entc (upd p.f (k : Int) e (j : Int)))
    by_cases h : j = k
    · subst h
      rw [upd_same]
      exact World.rangeAt_setCells_same w q _ _ (D.there hk)
    · rw [upd_other (by omega)]
      exact World.rangeAt_setCells_apart (D.ent j hj) q _ _ (.inr (by show 6 + j * 5 + 5 ≤ _ ∨ _ + 5 ≤ _; omega))
  · rw [World.cell?_setCells_out q _ _ w ⟨q, 1011, none⟩ (fun _ _ => .inr (by show 6 + k * 5 + 5 ≤ 1011; omega))]
    exact D.lin
  · rw [World.frozen?_setCells]
    exact D.free i
theorem set1 (w : World) (q o : Nat) (u : Value) : w.setCell ⟨q, o, none⟩ u = w.setCells q o [u] := rfl
theorem Pm.acct (D : Pm w q p v) {k : Nat} (hk : k ≤ 5) (x : Int) : Pm (w.setCell ⟨q, k, none⟩ (.int .i64 x)) q ⟨upd p.a (k : Int) x, p.f, p.l⟩ v := by
  rw [set1]
  refine ⟨by rw [(setCells_block q _ _ w).1]; exact D.lt, fun j hj => ?_, fun j hj => ?_, ?_, fun i => ?_⟩
  · by_cases h : j = k
    · subst h
      show _ = some (Value.int .i64 (upd p.a (j : Int) x (j : Int)))
      rw [upd_same]
      have := World.cell?_setCells_in q [.int .i64 x] j w (fun i hi => by
        obtain rfl : i = 0 := by simpa using hi
        rw [Nat.add_zero, D.acc j hj]; rfl) 0 (by simp)
      simpa using this
    · show _ = some (Value.int .i64 (upd p.a (k : Int) x (j : Int)))
      rw [upd_other (by omega), World.cell?_setCells_out q _ _ w ⟨q, j, none⟩ (fun _ _ => by show j < k ∨ k + 1 ≤ j; omega)]
      exact D.acc j hj
  · exact World.rangeAt_setCells_apart (D.ent j hj) q _ _ (.inr (by show 6 + j * 5 + 5 ≤ k ∨ k + 1 ≤ 6 + j * 5; omega))
  · rw [World.cell?_setCells_out q _ _ w ⟨q, 1011, none⟩ (fun _ _ => .inr (by show k + 1 ≤ 1011; omega))]
    exact D.lin
  · rw [World.frozen?_setCells]
    exact D.free i
theorem Pm.state (D : Pm w q p v) {k : Nat} (hk : k ≤ 200) (x : Int) : Pm (w.setCell ⟨q, 6 + k * 5, none⟩ (.int .i64 x)) q (Pu.put p (k : Int) ⟨x, (p.f k).cu, (p.f k).am⟩) v := by
  rw [set1]
  refine ⟨by rw [(setCells_block q _ _ w).1]; exact D.lt, fun j hj => ?_, fun j hj => ?_, ?_, fun i => ?_⟩
  · rw [World.cell?_setCells_out q _ _ w ⟨q, j, none⟩ (fun _ _ => .inl (by show j < 6 + k * 5; omega))]
    exact D.acc j hj
  · show World.rangeAt _ _ _ (entc (upd p.f (k : Int) _ (j : Int)))
    by_cases h : j = k
    · subst h
      rw [upd_same]
      intro i u hu
      have hi : i < 5 := (List.getElem?_eq_some_iff.1 hu).1
      by_cases h0 : i = 0
      · subst h0
        have := World.cell?_setCells_in q [.int .i64 x] (6 + j * 5) w (fun i hi => by
          obtain rfl : i = 0 := by simpa using hi
          rw [Nat.add_zero, D.st hk]; rfl) 0 (by simp)
        rw [this]
        exact hu
      · rw [World.cell?_setCells_out q _ _ w ⟨q, 6 + j * 5 + i, none⟩ (fun _ _ => .inr (by show 6 + j * 5 + 1 ≤ 6 + j * 5 + i; omega))]
        refine D.ent j hk i u ?_
        rw [← hu]
        rcases (by omega : i = 1 ∨ i = 2 ∨ i = 3 ∨ i = 4) with rfl | rfl | rfl | rfl <;> rfl
    · rw [upd_other (by omega)]
      exact World.rangeAt_setCells_apart (D.ent j hj) q _ _ (.inr (by show 6 + j * 5 + 5 ≤ 6 + k * 5 ∨ 6 + k * 5 + 1 ≤ 6 + j * 5; omega))
  · rw [World.cell?_setCells_out q _ _ w ⟨q, 1011, none⟩ (fun _ _ => .inr (by show 6 + k * 5 + 1 ≤ 1011; omega))]
    exact D.lin
  · rw [World.frozen?_setCells]
    exact D.free i
theorem Pm.lines (D : Pm w q p v) (v' : Value) (l : List Ln) : Pm (w.setCell ⟨q, 1011, none⟩ v') q ⟨p.a, p.f, l⟩ v' := by
  rw [set1]
  refine ⟨by rw [(setCells_block q _ _ w).1]; exact D.lt, fun j hj => ?_, fun j hj => ?_, ?_, fun i => ?_⟩
  · rw [World.cell?_setCells_out q _ _ w ⟨q, j, none⟩ (fun _ _ => .inl (by show j < 1011; omega))]
    exact D.acc j hj
  · exact World.rangeAt_setCells_apart (D.ent j hj) q _ _ (.inr (by show 6 + j * 5 + 5 ≤ 1011 ∨ 1011 + 1 ≤ 6 + j * 5; omega))
  · have := World.cell?_setCells_in q [v'] 1011 w (fun i hi => by
      obtain rfl : i = 0 := by simpa using hi
      rw [Nat.add_zero, D.lin]; rfl) 0 (by simp)
    simpa using this
  · rw [World.frozen?_setCells]
    exact D.free i
theorem Pm.all (D : Pm w q p v) : w.rangeAt q 0 (pcs p v) := fun j u hj => by
  have hl : j < 1012 := by have := (List.getElem?_eq_some_iff.1 hj).1; rwa [pcs_len] at this
  rw [Nat.zero_add]
  by_cases h1 : j ≤ 5
  · rw [pcs_acc p v h1] at hj
    rw [D.acc j h1, hj]
  · by_cases h2 : j = 1011
    · subst h2
      rw [pcs_lin] at hj
      rw [D.lin, hj]
    · obtain ⟨k, i, hk, hi, rfl⟩ : ∃ k i, k ≤ 200 ∧ i < 5 ∧ j = 6 + k * 5 + i := ⟨(j - 6) / 5, (j - 6) % 5, by omega, by omega, by omega⟩
      rw [pcs_ent p v hk hi] at hj
      exact D.ent k hk i u hj
theorem Pm.books (D : Pm w q p v) : w.rangeAt q 6 (ents p.f 201) := fun j u hj => by
  have hl : j < 1005 := by have := (List.getElem?_eq_some_iff.1 hj).1; rwa [ents_len] at this
  obtain ⟨k, i, hk, hi, rfl⟩ : ∃ k i, k ≤ 200 ∧ i < 5 ∧ j = 5 * k + i := ⟨j / 5, j % 5, by omega, by omega, by omega⟩
  rw [ents_at p.f (by omega) hi] at hj
  have := D.ent k hk i u hj
  rw [← this]
  congr 2
  omega
end
theorem entry_size : (Tryz.prog.info? 37).map (·.size) = some 5 := by kernel_rfl
theorem entc_one (e : E) : (entc e).toArray.all (·.oneCell') = true := by simp [entc, Value.oneCell']
def lnc (x : Ln) : List Value := [.int .i64 x.bk, .int .i64 x.fr, .int .i64 x.tg, .int .i64 x.am]
def fll (l : List Ln) : List Value := l.flatMap lnc
theorem fll_len (l : List Ln) : (fll l).length = l.length * 4 := by
  induction l with
  | nil => rfl
  | cons x l ih => rw [fll, List.flatMap_cons, List.length_append]; show 4 + (fll l).length = _; rw [ih, List.length_cons]; omega
theorem fll_app (a b : List Ln) : fll (a ++ b) = fll a ++ fll b := by simp [fll]
theorem fll_one (l : List Ln) : ∀ u ∈ fll l, u.oneCell' = true := by
  intro u hu
  obtain ⟨x, _, hx⟩ := List.mem_flatMap.1 hu
  simp [lnc] at hx
  rcases hx with rfl | rfl | rfl | rfl <;> rfl
abbrev RowT (t : TypeId) (w : World) (base : Nat) (v : Value) (n : Nat) (l : List Ln) : Prop := w.ownsRow base t 4 v n (fll l)
section
variable {t : TypeId} {w w' : World} {v v' : Value} {n base : Nat} {l : List Ln}
theorem rt_same (h : RowT t w base v n l) (hk : ∀ g, v.ownBlock = some g → w'.heap[g]? = w.heap[g]?) : RowT t w' base v n l := by
  refine ⟨h.1, ?_⟩
  rcases h.2 with h0 | ⟨g, cap, cur, hv, hb, hh, h2⟩
  · exact .inl h0
  · exact .inr ⟨g, cap, cur, hv, hb, (hk g (by rw [hv]; rfl)).trans hh, h2⟩
theorem rt_block {g : Nat} (h : RowT t w base v n l) (hg : v.ownBlock = some g) : base ≤ g ∧ ∃ cur, w.heap[g]? = some (.cells cur t (0, 0)) := by
  rcases h.2 with ⟨rfl, _⟩ | ⟨g', cap, cur, rfl, hb, hh, _⟩
  · simp [Value.ownBlock] at hg
  · have : g' = g := by simpa [Value.ownBlock] using hg
    subst this
    exact ⟨hb, cur, hh⟩
theorem rt_lt {g : Nat} (h : RowT t w base v n l) (hg : v.ownBlock = some g) : g < w.heap.size := by
  obtain ⟨_, cur, hc⟩ := rt_block h hg
  exact lt_some hc
theorem rt_below (h : RowT t w base v n l) (hb : Below w.heap.size w w') : RowT t w' base v n l := rt_same h fun g hg => hb.block g (rt_lt h hg)
theorem rt_form (h : RowT t w base v n l) : ∃ A c, v = .slice A n c ∧ n ≤ c ∧ c ≤ 9223372036854775807 ∧ (A = none → c = 0) := by
  rcases h.2 with ⟨rfl, rfl⟩ | ⟨g, cap, cur, rfl, hb, hh, h1, h2, _⟩
  · exact ⟨_, _, rfl, Nat.le_refl _, by omega, fun _ => rfl⟩
  · unfold maxLen at h2
    exact ⟨_, _, rfl, h1, h2, fun h => by cases h⟩
theorem rt_len (h : RowT t w base v n l) : l.length = n := by have := h.1; rw [fll_len] at this; omega
theorem rt_mono {base' : Nat} (h : RowT t w base v n l) (hb : base' ≤ base) : RowT t w base' v n l := by
  refine ⟨h.1, ?_⟩
  rcases h.2 with h0 | ⟨g, cap, cur, hv, hB, hh, h2⟩
  · exact .inl h0
  · exact .inr ⟨g, cap, cur, hv, Nat.le_trans hb hB, hh, h2⟩
end

structure Lax (t : TypeId) (w : World) (q : Nat) (p : S) (fp : Nat → Prop) : Prop where
  pin : fp q
  size : ∀ g, fp g → g < w.heap.size
  at_ : ∃ v, Pm w q p v ∧ RowT t w 0 v p.l.length p.l ∧ v.ownBlock ≠ some q ∧ ∀ g, v.ownBlock = some g → fp g
structure Led (t : TypeId) (w : World) (q : Nat) (p : S) (fp : Nat → Prop) : Prop extends Lax t w q p fp where
  ok : Ok p
section
variable {t : TypeId} {w w' w1 w2 : World} {q : Nat} {p p' : S} {fp fp' X : Nat → Prop}
theorem Lax.keep (L : Lax t w q p fp) (hs : w.heap.size ≤ w'.heap.size) (hk : ∀ g, fp g → w'.heap[g]? = w.heap[g]?) : Lax t w' q p fp := by
  obtain ⟨v, h1, h2, h3, h4⟩ := L.at_
  exact ⟨L.pin, fun g hg => Nat.lt_of_lt_of_le (L.size g hg) hs, v, h1.keep (hk q L.pin), rt_same h2 fun g hg => hk g (h4 g hg), h3, h4⟩
theorem Lax.below (L : Lax t w q p fp) (hb : Below w.heap.size w w') : Lax t w' q p fp := L.keep hb.size fun g hg => hb.block g (L.size g hg)
theorem Lax.mono (L : Lax t w q p fp) (hf : ∀ g, fp g → fp' g) (hs : ∀ g, fp' g → g < w.heap.size) : Lax t w q p fp' := by
  obtain ⟨v, h1, h2, h3, h4⟩ := L.at_
  exact ⟨hf q L.pin, hs, v, h1, h2, h3, fun g hg => hf g (h4 g hg)⟩
theorem Lax.put (L : Lax t w q p fp) {k : Nat} (hk : k ≤ 200) (e : E) : Lax t (w.setCells q (6 + k * 5) (entc e)) q (Pu.put p (k : Int) e) fp := by
  obtain ⟨v, h1, h2, h3, h4⟩ := L.at_
  have hs := setCells_block q (entc e) (6 + k * 5) w
  exact ⟨L.pin, fun g hg => by rw [hs.1]; exact L.size g hg, v, h1.put hk e, rt_same h2 fun g hg => hs.2.2.2.2 g fun e => h3 (by rw [hg, e]), h3, h4⟩
theorem Lax.state (L : Lax t w q p fp) {k : Nat} (hk : k ≤ 200) (x : Int) : Lax t (w.setCell ⟨q, 6 + k * 5, none⟩ (.int .i64 x)) q (Pu.put p (k : Int) ⟨x, (p.f k).cu, (p.f k).am⟩) fp := by
  obtain ⟨v, h1, h2, h3, h4⟩ := L.at_
  have hs := setCells_block q [.int .i64 x] (6 + k * 5) w
  exact ⟨L.pin, fun g hg => by rw [set1, hs.1]; exact L.size g hg, v, h1.state hk x, rt_same h2 fun g hg => hs.2.2.2.2 g fun e => h3 (by rw [hg, e]), h3, h4⟩
end
def MvTo (t : TypeId) (X : Nat → Prop) (w : World) (q : Nat) (fp : Nat → Prop) (p : S) (w' : World) : Prop := Lax t w' q p (grq fp w w') ∧ Kt q X w w'
def LTo (t : TypeId) (X : Nat → Prop) (w : World) (q : Nat) (fp : Nat → Prop) (p : S) (w' : World) : Prop := Led t w' q p (grq fp w w') ∧ Kt q X w w'
section
variable {t : TypeId} {w w' w1 w2 : World} {q : Nat} {p p' : S} {fp fp' X : Nat → Prop}
theorem Lax.lt (L : Lax t w q p fp) : q < w.heap.size := L.size q L.pin
theorem Led.keep (L : Led t w q p fp) (hs : w.heap.size ≤ w'.heap.size) (hk : ∀ g, fp g → w'.heap[g]? = w.heap[g]?) : Led t w' q p fp := ⟨L.toLax.keep hs hk, L.ok⟩
theorem Led.below (L : Led t w q p fp) (hb : Below w.heap.size w w') : Led t w' q p fp := ⟨L.toLax.below hb, L.ok⟩
theorem Led.mono (L : Led t w q p fp) (hf : ∀ g, fp g → fp' g) (hs : ∀ g, fp' g → g < w.heap.size) : Led t w q p fp' := ⟨L.toLax.mono hf hs, L.ok⟩
theorem MvTo.of_below (L : Lax t w q p fp) (hb : Below w.heap.size w w') : MvTo t X w q fp p w' :=
  ⟨(L.below hb).mono (fun _ h => .inl h) fun g hg => by
    rcases hg with hg | ⟨_, hg⟩
    · exact Nat.lt_of_lt_of_le (L.size g hg) hb.size
    · exact hg, .of_below L.lt hb⟩
theorem MvTo.after (hq : q < w.heap.size) (hb : Below w.heap.size w w1) (h : MvTo t X w1 q fp p w2) : MvTo t X w q fp p w2 := by
  obtain ⟨h1, h2⟩ := h
  refine ⟨h1.mono (fun g hg => ?_) (fun g hg => ?_), (Kt.of_below hq hb).self h2⟩
  · rcases hg with hg | ⟨hg, hg'⟩
    · exact .inl hg
    · exact .inr ⟨Nat.le_trans hb.size hg, hg'⟩
  · rcases hg with hg | ⟨hg, hg'⟩
    · exact h1.size g (.inl hg)
    · exact hg'
theorem MvTo.then (h : MvTo t X w q fp p w1) (k : MvTo t X w1 q (grq fp w w1) p' w2) : MvTo t X w q fp p' w2 := by
  obtain ⟨h1, h2⟩ := h
  obtain ⟨k1, k2⟩ := k
  rw [grq_grq h2.size k2.size] at k1
  exact ⟨k1, h2.self k2⟩
theorem MvTo.of_same (h : Lax t w' q p fp) (k : Kt q X w w') : MvTo t X w q fp p w' := ⟨h.mono (fun _ h => .inl h) (fun g hg => by
    rcases hg with hg | ⟨_, hg⟩
    · exact h.size g hg
    · exact hg), k⟩
theorem MvTo.led (h : MvTo t X w q fp p w') (ho : Ok p) : LTo t X w q fp p w' := ⟨⟨h.1, ho⟩, h.2⟩
theorem LTo.mv (h : LTo t X w q fp p w') : MvTo t X w q fp p w' := ⟨h.1.toLax, h.2⟩
theorem LTo.of_below (L : Led t w q p fp) (hb : Below w.heap.size w w') : LTo t X w q fp p w' := (MvTo.of_below L.toLax hb).led L.ok
theorem LTo.after (hq : q < w.heap.size) (hb : Below w.heap.size w w1) (h : LTo t X w1 q fp p w2) : LTo t X w q fp p w2 := (MvTo.after hq hb h.mv).led h.1.ok
end
end Pu
end Go.Proofs.YtpkdigegkemogaaGreatDoor
