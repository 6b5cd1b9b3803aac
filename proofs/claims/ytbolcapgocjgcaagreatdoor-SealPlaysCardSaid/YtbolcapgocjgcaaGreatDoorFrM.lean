/- Frames as lists of bytes: the head, what stands at a place, the records one behind the other. Plain arithmetic. -/
import Derived.Test.YtbolcapgocjgcaaGreatDoorLwSumsM
namespace Go.Proofs.YtbolcapgocjgcaaGreatDoor
open Go.Proofs.YtbolcapgocjgcaaGreatDoor.Pk
namespace Fr

/-- The lowest bytes of n, so many, the least first; and the number that they are of. -/
def le : Nat → Nat → List UInt8
  | 0, _ => []
  | k + 1, n => UInt8.ofNat (n % 256) :: le k (n / 256)
def num : List UInt8 → Nat
  | [] => 0
  | c :: t => c.toNat + 256 * num t
theorem le_len (k : Nat) : ∀ n, (le k n).length = k := by
  induction k with
  | zero => exact fun _ => rfl
  | succ k ih => intro n; simp [le, ih]
theorem le_snoc (k : Nat) : ∀ n, le (k + 1) n = le k n ++ [UInt8.ofNat (n / 256 ^ k % 256)] := by
  induction k with
  | zero => intro n; simp [le]
  | succ k ih =>
    intro n
    have h := ih (n / 256)
    show UInt8.ofNat (n % 256) :: le (k + 1) (n / 256) = _
    rw [h, Nat.div_div_eq_div_mul, Nat.pow_succ, Nat.mul_comm 256]
    rfl
theorem num_le (k : Nat) : ∀ n, n < 256 ^ k → num (le k n) = n := by
  induction k with
  | zero => intro n h; simp at h; subst h; rfl
  | succ k ih =>
    intro n h
    rw [Nat.pow_succ] at h
    show (UInt8.ofNat (n % 256)).toNat + 256 * num (le k (n / 256)) = n
    rw [ih (n / 256) (by omega), ofNat_toNat (by omega)]
    omega
theorem num_lt (bs : List UInt8) : num bs < 256 ^ bs.length := by
  induction bs with
  | nil => decide
  | cons c t ih =>
    have := c.toNat_lt
    show c.toNat + 256 * num t < 256 ^ (t.length + 1)
    rw [Nat.pow_succ]; omega
theorem le_num (bs : List UInt8) : le bs.length (num bs) = bs := by
  induction bs with
  | nil => rfl
  | cons c t ih =>
    have := c.toNat_lt
    show UInt8.ofNat ((c.toNat + 256 * num t) % 256) :: le t.length ((c.toNat + 256 * num t) / 256) = _
    rw [show (c.toNat + 256 * num t) % 256 = c.toNat by omega, show (c.toNat + 256 * num t) / 256 = num t by omega, ih, UInt8.ofNat_toNat]
theorem num_snoc (a : List UInt8) (c : UInt8) : num (a ++ [c]) = num a + 256 ^ a.length * c.toNat := by
  induction a with
  | nil => simp [num]
  | cons x t ih =>
    show x.toNat + 256 * num (t ++ [c]) = x.toNat + 256 * num t + 256 ^ (t.length + 1) * c.toNat
    rw [ih, Nat.pow_succ, Nat.mul_add, Nat.mul_comm (256 ^ t.length) 256, Nat.mul_assoc]; omega

theorem sum_lt (bs : List UInt8) : sumOf bs < 4294967296 := by unfold sumOf; omega
def frame (r : List UInt8) : List UInt8 := le 4 (sumOf r) ++ (le 2 r.length ++ r)
theorem frame_len (r : List UInt8) : (frame r).length = r.length + 6 := by simp [frame, le_len]; omega
/-- The length that a head tells. -/
def hlen (s : List UInt8) : Nat := num ((s.drop 4).take 2)
def fits (s : List UInt8) : Prop := 6 ≤ s.length ∧ 1 ≤ hlen s ∧ hlen s ≤ 1000 ∧ hlen s ≤ s.length - 6 ∧ sumOf ((s.drop 6).take (hlen s)) = num (s.take 4)
instance (s : List UInt8) : Decidable (fits s) := by unfold fits; infer_instance
/-- The record of the frame that s begins with. -/
def one (s : List UInt8) : Option (List UInt8) := if fits s then some ((s.drop 6).take (hlen s)) else none
/-- What stands at a place. -/
def oneAt (b : List UInt8) (at_ : Int) : Option (List UInt8) := if 0 ≤ at_ ∧ at_ ≤ b.length then one (b.drop at_.toNat) else none

theorem one_len {s r : List UInt8} (h : one s = some r) : r.length + 6 ≤ s.length ∧ 1 ≤ r.length ∧ r.length ≤ 1000 := by
  unfold one at h
  split at h
  · rename_i hf
    obtain ⟨h1, h2, h3, h4, _⟩ := hf
    injection h with h
    subst h
    simp only [List.length_take, List.length_drop]
    omega
  · cases h
theorem one_frame {r t : List UInt8} (h1 : 1 ≤ r.length) (h2 : r.length ≤ 1000) : one (frame r ++ t) = some r := by
  have l4 := le_len 4 (sumOf r)
  have l2 := le_len 2 r.length
  have e4 : (frame r ++ t).take 4 = le 4 (sumOf r) := by
    unfold frame
    rw [List.append_assoc, List.take_left' l4]
  have e6 : (frame r ++ t).drop 4 = le 2 r.length ++ (r ++ t) := by
    unfold frame
    rw [List.append_assoc, List.drop_left' l4, List.append_assoc]
  have e7 : (frame r ++ t).drop 6 = r ++ t := by
    have : (frame r ++ t).drop 6 = ((frame r ++ t).drop 4).drop 2 := by rw [List.drop_drop]
    rw [this, e6, List.drop_left' l2]
  have hh : hlen (frame r ++ t) = r.length := by
    unfold hlen
    rw [e6, List.take_left' l2, num_le 2 _ (by omega)]
  have hr : ((frame r ++ t).drop 6).take r.length = r := by rw [e7, List.take_left' rfl]
  have hl : (frame r ++ t).length = r.length + 6 + t.length := by rw [List.length_append, frame_len]
  unfold one
  rw [if_pos, hh, hr]
  refine ⟨by omega, by omega, by omega, by omega, ?_⟩
  rw [hh, hr, e4, num_le 4 _ (by have := sum_lt r; omega)]
theorem one_short {s : List UInt8} (h : s.length < 6) : one s = none := by
  unfold one
  rw [if_neg (fun hf => by have := hf.1; omega)]
theorem one_is {s r : List UInt8} (h : one s = some r) : s = frame r ++ s.drop (6 + r.length) := by
  have hl := one_len h
  unfold one at h
  split at h
  · rename_i hf
    obtain ⟨h1, h2, h3, h4, h5⟩ := hf
    injection h with h
    have hr : r.length = hlen s := by rw [← h]; simp only [List.length_take, List.length_drop]; omega
    have e4 : le 4 (sumOf r) = s.take 4 := by
      rw [← h, h5]
      have := le_num (s.take 4)
      rwa [show (s.take 4).length = 4 by rw [List.length_take]; omega] at this
    have e2 : le 2 r.length = (s.drop 4).take 2 := by
      rw [hr]
      have := le_num ((s.drop 4).take 2)
      rwa [show ((s.drop 4).take 2).length = 2 by rw [List.length_take, List.length_drop]; omega] at this
    unfold frame
    rw [e4, e2]
    conv => lhs; rw [← List.take_append_drop 4 s, ← List.take_append_drop 2 (s.drop 4), List.drop_drop, ← List.take_append_drop r.length (s.drop 6), List.drop_drop]
    rw [List.append_assoc, List.append_assoc, hr, h]
  · cases h
theorem one_cut {r t : List UInt8} {k : Nat} (hr : r.length ≤ 1000) (h : k < r.length + 6) : one ((frame r ++ t).take k) = none := by
  rcases Nat.lt_or_ge k 6 with h6 | h6
  · exact one_short (by rw [List.length_take]; omega)
  · have l4 := le_len 4 (sumOf r)
    have l2 := le_len 2 r.length
    have hl : (frame r ++ t).length = r.length + 6 + t.length := by rw [List.length_append, frame_len]
    have hh : hlen ((frame r ++ t).take k) = r.length := by
      unfold hlen frame
      rw [List.drop_take, List.take_take, Nat.min_eq_left (by omega), List.append_assoc, List.drop_left' l4, List.append_assoc, List.take_left' l2, num_le 2 _ (by omega)]
    unfold one
    rw [if_neg]
    rintro ⟨_, _, _, h4, _⟩
    rw [hh, List.length_take] at h4
    omega
theorem one_zeros : one [0, 0, 0, 0, 0, 0, 0] = none := by decide +kernel

/-- The records from a place on, and the place behind the last one. -/
def Goes (b : List UInt8) : Nat → List (List UInt8) → Nat → Prop
  | p, [], q => p = q
  | p, r :: l, q => one (b.drop p) = some r ∧ Goes b (p + (6 + r.length)) l q
def Got (b : List UInt8) (l : List (List UInt8)) (q : Nat) : Prop := Goes b 0 l q ∧ one (b.drop q) = none
theorem goes_snoc {b : List UInt8} {l : List (List UInt8)} {r : List UInt8} : ∀ {p q}, Goes b p l q → one (b.drop q) = some r → Goes b p (l ++ [r]) (q + (6 + r.length)) := by
  induction l with
  | nil => intro p q h h1; obtain rfl := h; exact ⟨h1, rfl⟩
  | cons x t ih => intro p q h h1; exact ⟨h.1, ih h.2 h1⟩
theorem goes_one {b : List UInt8} {l l' : List (List UInt8)} : ∀ {p q q'}, Goes b p l q → one (b.drop q) = none → Goes b p l' q' → one (b.drop q') = none → l = l' ∧ q = q' := by
  induction l generalizing l' with
  | nil =>
    intro p q q' h h1 h' h1'
    obtain rfl := h
    cases l' with
    | nil => exact ⟨rfl, h'⟩
    | cons x t => rw [h'.1] at h1; cases h1
  | cons x t ih =>
    intro p q q' h h1 h' h1'
    cases l' with
    | nil => obtain rfl := h'; rw [h.1] at h1'; cases h1'
    | cons y t' =>
      have e := h.1.symm.trans h'.1
      injection e with e
      subst e
      obtain ⟨rfl, rfl⟩ := ih h.2 h1 h'.2 h1'
      exact ⟨rfl, rfl⟩
theorem got_one {b : List UInt8} {l l' : List (List UInt8)} {q q' : Nat} (h : Got b l q) (h' : Got b l' q') : l = l' ∧ q = q' := goes_one h.1 h.2 h'.1 h'.2
theorem goes_le {b : List UInt8} {l : List (List UInt8)} : ∀ {p q}, Goes b p l q → p + l.length ≤ q ∧ (p ≤ b.length → q ≤ b.length) := by
  induction l with
  | nil => intro p q h; obtain rfl := h; exact ⟨Nat.le_refl _, id⟩
  | cons x t ih =>
    intro p q h
    have h1 := ih h.2
    have h2 := one_len h.1
    rw [List.length_drop] at h2
    refine ⟨by simp; omega, fun hp => h1.2 (by omega)⟩

/-- All frames of a list of records, one behind the other. -/
def frames : List (List UInt8) → List UInt8
  | [] => []
  | r :: l => frame r ++ frames l
theorem frames_snoc (l : List (List UInt8)) (r : List UInt8) : frames (l ++ [r]) = frames l ++ frame r := by
  induction l with
  | nil => simp [frames]
  | cons x t ih => simp [frames, ih]
def Ok (l : List (List UInt8)) : Prop := ∀ r ∈ l, 1 ≤ r.length ∧ r.length ≤ 1000
theorem goes_frames {t : List UInt8} (l : List (List UInt8)) (h : Ok l) : ∀ b p, b.drop p = frames l ++ t → Goes b p l (p + (frames l).length) := by
  induction l with
  | nil => intro b p _; rfl
  | cons r l ih =>
    intro b p hb
    obtain ⟨h1, h2⟩ := h r (List.mem_cons_self ..)
    refine ⟨by rw [hb]; show one ((frame r ++ frames l) ++ t) = _; rw [List.append_assoc]; exact one_frame h1 h2, ?_⟩
    have := ih (fun x hx => h x (List.mem_cons_of_mem _ hx)) b (p + (6 + r.length)) (by
      rw [← List.drop_drop, hb]
      show ((frame r ++ frames l) ++ t).drop _ = _
      rw [List.append_assoc, List.drop_left' (by rw [frame_len]; omega)])
    have e : p + (6 + r.length) + (frames l).length = p + (frames (r :: l)).length := by
      show _ = p + (frame r ++ frames l).length
      rw [List.length_append, frame_len]; omega
    rwa [e] at this
/-- With bytes behind that are no frame: all records, and no more. -/
theorem got_frames {t : List UInt8} {l : List (List UInt8)} (h : Ok l) (ht : one t = none) : Got (frames l ++ t) l (frames l).length := by
  have g := goes_frames l h (frames l ++ t) 0 rfl
  rw [Nat.zero_add] at g
  exact ⟨g, by rw [List.drop_left' rfl]; exact ht⟩
end Fr
end Go.Proofs.YtbolcapgocjgcaaGreatDoor
