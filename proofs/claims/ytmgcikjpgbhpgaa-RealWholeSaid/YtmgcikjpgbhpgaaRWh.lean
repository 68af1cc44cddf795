/- Doubles that are whole, and whole numbers held against doubles. Plain; conditions: none. -/
import Derived.Test.YtmgcikjpgbhpgaaRRnd
namespace Go.Proofs.Ytmgcikjpgbhpgaa
open Go

/-- the least double goes so often into 1 -/
def Qz : Nat := 2 ^ q74
theorem Q_pos : 0 < Qz := Nat.pow_pos (by decide)
theorem Q_split {e : Nat} (he : 1 ≤ e) (h : e ≤ 1075) : Qz = 2 ^ (e - 1) * 2 ^ (1075 - e) := by
  unfold Qz
  rw [← Nat.pow_add]
  exact congrArg (fun k => 2 ^ k) (by unfold q74; omega)
theorem Q_more {e : Nat} (h : 1075 ≤ e) : 2 ^ (e - 1) = Qz * 2 ^ (e - 1075) := by
  unfold Qz
  rw [← Nat.pow_add]
  exact congrArg (fun k => 2 ^ k) (by unfold q74; omega)
theorem Q_at {e : Nat} (h : e = 1075) : 2 ^ (e - 1) = Qz := by
  unfold Qz
  exact congrArg (fun k => 2 ^ k) (by unfold q74; omega)

theorem intZ_Q (n : Int) : intZ n = rdZ (decide (n < 0)) (n.natAbs * Qz) := rfl

/-- a whole number's start -/
theorem going_int (k : Nat) : Going k (k * Qz) 1078 := by
  left
  have e : 2 ^ (1078 - 1) = Qz * 8 := by
    unfold Qz
    rw [show (1078 - 1 : Nat) = q74 + 3 from rfl, Nat.pow_add]
  rw [e, Nat.mul_comm Qz 8, ← Nat.mul_assoc, ← Nat.mul_assoc, Nat.mul_comm 8 k]

def signI (s : Bool) (k : Nat) : Int := if s then -(k : Int) else (k : Int)
/-- the whole number that it is -/
def wholeZ (u : Nat) : Int × Bool := if exZ u ≠ 2047 ∧ valZ u % Qz = 0 ∧ valZ u / Qz ≤ 4611686018427387904 then (signI (sgZ u) (valZ u / Qz), true) else (0, false)

theorem whole_inf {u : Nat} (h : exZ u = 2047) : wholeZ u = (0, false) := by unfold wholeZ; rw [if_neg (by omega)]
theorem whole_odd {u m e : Nat} (he : 1 ≤ e) (h : e < 1075) (hm : m % 2 = 1) (hv : valZ u = m * 2 ^ (e - 1)) : wholeZ u = (0, false) := by
  unfold wholeZ
  rw [if_neg]
  rintro ⟨_, h2, _⟩
  rw [hv, Q_split he (by omega), Nat.mul_comm m, Nat.mul_mod_mul_left] at h2
  have hp : 0 < 2 ^ (e - 1) := Nat.pow_pos (by decide)
  obtain ⟨j, hj⟩ : ∃ j, 1075 - e = j + 1 := ⟨1074 - e, by omega⟩
  rw [hj] at h2
  have h3 : m % 2 ^ (j + 1) = 0 := by
    rcases Nat.mul_eq_zero.1 h2 with h4 | h4 <;> omega
  have h4 : m % 2 ^ (j + 1) % 2 = m % 2 := Nat.mod_mod_of_dvd m ⟨2 ^ j, by rw [Nat.pow_succ, Nat.mul_comm]⟩
  omega
theorem whole_big {u m e : Nat} (h : 1075 ≤ e) (hm : 4611686018427387904 < m) (hv : valZ u = m * 2 ^ (e - 1)) : wholeZ u = (0, false) := by
  unfold wholeZ
  rw [if_neg]
  rintro ⟨_, _, h3⟩
  have hp : 0 < 2 ^ (e - 1075) := Nat.pow_pos (by decide)
  rw [hv, Q_more h, Nat.mul_comm Qz, ← Nat.mul_assoc, Nat.mul_div_cancel _ Q_pos] at h3
  have : m * 1 ≤ m * 2 ^ (e - 1075) := Nat.mul_le_mul (Nat.le_refl _) hp
  omega
theorem whole_is {u m : Nat} (hx : exZ u ≠ 2047) (hm : m ≤ 4611686018427387904) (hv : valZ u = m * Qz) : wholeZ u = (signI (sgZ u) m, true) := by
  unfold wholeZ
  rw [hv, Nat.mul_mod_left, Nat.mul_div_cancel _ Q_pos, if_pos ⟨hx, rfl, hm⟩]

/-- how two stand -/
def cmpI (x y : Int) : Int := if x < y then -1 else if x = y then 0 else 1
theorem cmp_lt {x y : Int} (h : x < y) : cmpI x y = -1 := if_pos h
theorem cmp_eq {x y : Int} (h : x = y) : cmpI x y = 0 := by unfold cmpI; rw [if_neg (by omega), if_pos h]
theorem cmp_gt {x y : Int} (h : y < x) : cmpI x y = 1 := by unfold cmpI; rw [if_neg (by omega), if_neg (by omega)]
theorem cmp_neg (x y : Int) : cmpI (-x) (-y) = -cmpI x y := by
  unfold cmpI
  repeat' split
  all_goals omega

/-- a whole number against a double -/
def versusZ (n : Int) (u : Nat) : Int × Bool :=
  if kindZ u = 5 ∨ n < -4611686018427387904 ∨ 4611686018427387904 < n then (0, false)
  else if kindZ u = 4 then (if sgZ u then 1 else -1, true)
  else (cmpI (n * (Qz : Int)) (svalZ u), true)

/-- the state of holding against: m times 2^(e-1) and less than that more -/
def Held (V m e : Nat) (more : Bool) : Prop := ∃ r, V = m * 2 ^ (e - 1) + r ∧ r < 2 ^ (e - 1) ∧ more = decide (r ≠ 0)
theorem held_start {V m e : Nat} (h : V = m * 2 ^ (e - 1)) : Held V m e false := ⟨0, by omega, Nat.pow_pos (by decide), rfl⟩
theorem held_step {V m e : Nat} {more : Bool} (he : 1 ≤ e) (h : Held V m e more) : Held V (m / 2) (e + 1) (more || decide (m % 2 = 1)) := by
  obtain ⟨r, h1, h2, h3⟩ := h
  have hp : 0 < 2 ^ (e - 1) := Nat.pow_pos (by decide)
  have e2 : 2 ^ (e + 1 - 1) = 2 * 2 ^ (e - 1) := by
    obtain ⟨j, rfl⟩ : ∃ j, e = j + 1 := ⟨e - 1, by omega⟩
    rw [show j + 1 + 1 - 1 = j + 1 by omega, show j + 1 - 1 = j by omega, Nat.pow_succ, Nat.mul_comm]
  have hm : m = 2 * (m / 2) + m % 2 := by omega
  have e3 : m * 2 ^ (e - 1) = m / 2 * (2 * 2 ^ (e - 1)) + m % 2 * 2 ^ (e - 1) := by
    rw [← Nat.mul_assoc, Nat.mul_comm (m / 2) 2, ← Nat.add_mul, ← hm]
  refine ⟨m % 2 * 2 ^ (e - 1) + r, by rw [e2, h1, e3]; omega, ?_, ?_⟩
  · rw [e2]
    rcases Nat.mod_two_eq_zero_or_one m with h4 | h4 <;> rw [h4] <;> omega
  · rw [h3]
    rcases Nat.mod_two_eq_zero_or_one m with h4 | h4
    · rw [h4, Nat.zero_mul, Nat.zero_add, decide_eq_false (show ¬ (0 = 1) by omega), Bool.or_false]
    · rw [h4, decide_eq_true (show 1 = 1 from rfl), Bool.or_true]
      exact (decide_eq_true (by omega)).symm

/-- what is told of n against V -/
theorem held_done {V m e n : Nat} {more : Bool} (hn : n ≤ 4611686018427387904) (h : Held V m e more) (he : e = 1075 ∨ (m = 0 ∧ more = false) ∨ (1075 ≤ e ∧ more = false ∧ 4611686018427387904 < m)) :
    cmpI ((n : Int) * (Qz : Int)) (V : Int) = if n < m ∨ (n = m ∧ more = true) then -1 else if n = m then 0 else 1 := by
  have hQ := Q_pos
  obtain ⟨r, h1, h2, h3⟩ := h
  have key : ∀ a b : Nat, a < b → a * Qz + Qz ≤ b * Qz := fun a b hab => by
    have := Nat.mul_le_mul (show a + 1 ≤ b by omega) (Nat.le_refl Qz)
    rw [Nat.add_mul, Nat.one_mul] at this
    exact this
  have hcast : (n : Int) * (Qz : Int) = ((n * Qz : Nat) : Int) := by simp
  rw [hcast]
  have hr0 : more = true ↔ r ≠ 0 := by rw [h3]; exact decide_eq_true_iff
  rcases he with he | ⟨hm, hmo⟩ | ⟨he, hmo, hm⟩
  · rw [Q_at he] at h1 h2
    rcases Nat.lt_trichotomy n m with h4 | h4 | h4
    · rw [if_pos (Or.inl h4)]
      have := key n m h4
      exact cmp_lt (by omega)
    · subst h4
      by_cases h5 : more = true
      · rw [if_pos (Or.inr ⟨rfl, h5⟩)]
        have := hr0.1 h5
        exact cmp_lt (by omega)
      · rw [if_neg (fun h => h.elim (fun h => by omega) (fun h => h5 h.2)), if_pos rfl]
        have : r = 0 := by
          rcases Nat.eq_zero_or_pos r with h6 | h6
          · exact h6
          · exact absurd (hr0.2 (by omega)) h5
        exact cmp_eq (by omega)
    · rw [if_neg (by omega), if_neg (by omega)]
      have := key m n h4
      exact cmp_gt (by omega)
  · have hr : r = 0 := by
      rcases Nat.eq_zero_or_pos r with h6 | h6
      · exact h6
      · have := hr0.2 (by omega); rw [hmo] at this; cases this
    subst hm
    rw [Nat.zero_mul, hr] at h1
    rcases Nat.eq_zero_or_pos n with h4 | h4
    · subst h4
      rw [if_neg (by rw [hmo]; simp), if_pos rfl]
      exact cmp_eq (by omega)
    · rw [if_neg (by omega), if_neg (by omega)]
      have := key 0 n h4
      exact cmp_gt (by omega)
  · rw [if_pos (Or.inl (by omega))]
    have h5 := key n m (by omega)
    have hp : 0 < 2 ^ (e - 1075) := Nat.pow_pos (by decide)
    have h6 : m * Qz * 1 ≤ m * Qz * 2 ^ (e - 1075) := Nat.mul_le_mul (Nat.le_refl _) hp
    rw [Q_more he, ← Nat.mul_assoc] at h1
    exact cmp_lt (by omega)

theorem val_zero {u : Nat} (h : kindZ u = 1) : valZ u = 0 := by
  unfold valZ
  rw [kind_zero.1 h]
  decide
theorem val_pos {u : Nat} (h : kindZ u ≠ 1) : 0 < valZ u := by
  have h1 := @kind_zero u
  have h2 : 0 < rungZ u := by omega
  have h3 := worth_mono h2
  unfold valZ
  omega
theorem versus_out {n : Int} {u : Nat} (h : kindZ u = 5 ∨ n < -4611686018427387904 ∨ 4611686018427387904 < n) : versusZ n u = (0, false) := if_pos h
theorem versus_inf {n : Int} {u : Nat} (h : ¬ (kindZ u = 5 ∨ n < -4611686018427387904 ∨ 4611686018427387904 < n)) (h4 : kindZ u = 4) : versusZ n u = (if sgZ u then 1 else -1, true) := by
  unfold versusZ; rw [if_neg h, if_pos h4]
theorem versus_fin {n : Int} {u : Nat} (h : ¬ (kindZ u = 5 ∨ n < -4611686018427387904 ∨ 4611686018427387904 < n)) (h4 : kindZ u ≠ 4) : versusZ n u = (cmpI (n * (Qz : Int)) (svalZ u), true) := by
  unfold versusZ; rw [if_neg h, if_neg h4]
theorem nQ_neg {n : Int} (h : n < 0) : n * (Qz : Int) < 0 := Int.mul_neg_of_neg_of_pos h (by have := Q_pos; omega)
theorem nQ_pos {n : Int} (h : 0 < n) : 0 < n * (Qz : Int) := Int.mul_pos h (by have := Q_pos; omega)
theorem nQ_nonneg {n : Int} (h : 0 ≤ n) : 0 ≤ n * (Qz : Int) := Int.mul_nonneg h (by have := Q_pos; omega)
theorem nQ_nonpos {n : Int} (h : n ≤ 0) : n * (Qz : Int) ≤ 0 := by
  have := nQ_nonneg (n := -n) (by omega)
  rw [Int.neg_mul] at this
  omega

theorem versus_zero {n : Int} {u : Nat} (h : ¬ (kindZ u = 5 ∨ n < -4611686018427387904 ∨ 4611686018427387904 < n)) (h1 : kindZ u = 1) :
    versusZ n u = (if n < 0 then -1 else if n = 0 then 0 else 1, true) := by
  rw [versus_fin h (by omega)]
  have hs : svalZ u = 0 := by unfold svalZ; rw [val_zero h1]; split <;> rfl
  rw [hs]
  split
  · rename_i h2; rw [cmp_lt (nQ_neg h2)]
  · split
    · rename_i h3; rw [h3, cmp_eq (by rw [Int.zero_mul])]
    · rw [cmp_gt (nQ_pos (by omega))]
theorem versus_below {n : Int} {u : Nat} (h : ¬ (kindZ u = 5 ∨ n < -4611686018427387904 ∨ 4611686018427387904 < n)) (h1 : kindZ u ≠ 1) (hs : sgZ u = true) :
    versusZ n u = if 0 ≤ n ∨ kindZ u = 4 then (1, true) else (-cmpI (((-n).toNat : Int) * (Qz : Int)) (valZ u : Int), true) := by
  by_cases h4 : kindZ u = 4
  · rw [versus_inf h h4, hs, if_pos (Or.inr h4)]; rfl
  · rw [versus_fin h h4]
    have hv : svalZ u = -(valZ u : Int) := by unfold svalZ; rw [hs]; rfl
    rw [hv]
    by_cases hn : 0 ≤ n
    · rw [if_pos (Or.inl hn), cmp_gt (by have := nQ_nonneg hn; have := val_pos h1; omega)]
    · rw [if_neg (by omega)]
      have e : n * (Qz : Int) = -(((-n).toNat : Int) * (Qz : Int)) := by
        rw [show ((-n).toNat : Int) = -n by omega, Int.neg_mul, Int.neg_neg]
      rw [e, cmp_neg]
theorem versus_above {n : Int} {u : Nat} (h : ¬ (kindZ u = 5 ∨ n < -4611686018427387904 ∨ 4611686018427387904 < n)) (h1 : kindZ u ≠ 1) (hs : sgZ u = false) :
    versusZ n u = if n ≤ 0 ∨ kindZ u = 4 then (-1, true) else (cmpI ((n.toNat : Int) * (Qz : Int)) (valZ u : Int), true) := by
  by_cases h4 : kindZ u = 4
  · rw [versus_inf h h4, hs, if_pos (Or.inr h4)]; rfl
  · rw [versus_fin h h4]
    have hv : svalZ u = (valZ u : Int) := by unfold svalZ; rw [hs]; rfl
    rw [hv]
    by_cases hn : n ≤ 0
    · rw [if_pos (Or.inl hn), cmp_lt (by have := nQ_nonpos hn; have := val_pos h1; omega)]
    · rw [if_neg (by omega), show (n.toNat : Int) = n by omega]
theorem cmp_bound (x y : Int) : -1 ≤ cmpI x y ∧ cmpI x y ≤ 1 := by unfold cmpI; (repeat' split) <;> omega

end Go.Proofs.Ytmgcikjpgbhpgaa
