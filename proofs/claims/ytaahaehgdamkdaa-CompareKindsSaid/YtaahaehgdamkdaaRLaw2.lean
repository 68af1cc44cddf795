/- What holds of whole numbers against doubles, and of order. Plain; conditions: none. -/
import Derived.Test.YtaahaehgdamkdaaRLaw
namespace Go.Proofs.Ytaahaehgdamkdaa
open Go

/-! ### order -/
/-! ### whole numbers -/
theorem pow_swap (a b c d : Nat) (h : a + b = c + d) : 2 ^ a * 2 ^ b = 2 ^ c * 2 ^ d := by rw [← Nat.pow_add, ← Nat.pow_add, h]
theorem pow_swap' (m n a b c d x : Nat) (hm : 2 ^ a = m) (hn : 2 ^ c = n) (hx : x = 2 ^ b) (h : a + b = c + d) : m * x = n * 2 ^ d := by rw [← hm, ← hn, hx]; exact pow_swap a b c d h
theorem Q_is : Qz = 2 ^ q74 := rfl
def q84 : Nat := 1084
def q75 : Nat := 1075
theorem pow_le_inv {a b : Nat} (h : 2 ^ a ≤ 2 ^ b) : a ≤ b := by
  rcases Nat.lt_or_ge b a with h1 | h1
  · have : 2 ^ (b + 1) ≤ 2 ^ a := Nat.pow_le_pow_right (by decide) h1
    rw [Nat.pow_succ] at this
    have := Nat.pow_pos (n := b) (show 0 < 2 by decide)
    omega
  · exact h1
theorem int_exact_at (e : Nat) (he : 9007199254740992 * Qz = 4503599627370496 * 2 ^ e) (hq : ∀ d, d < e → Qz % 2 ^ d = 0) {k : Nat} (h : k ≤ 9007199254740992) : k * Qz % 2 ^ dn (k * Qz) = 0 := by
  generalize Qz = Q at *
  rcases Nat.lt_or_ge (k * Q) 9007199254740992 with h1 | h1
  · rw [dn_small h1, Nat.pow_zero, Nat.mod_one]
  · obtain ⟨a, b, c⟩ := dn_big h1
    have h2 : k * Q ≤ 9007199254740992 * Q := Nat.mul_le_mul h (Nat.le_refl _)
    have h3 : 2 ^ dn (k * Q) ≤ 2 ^ e := Nat.le_of_mul_le_mul_left (by omega : 4503599627370496 * 2 ^ dn (k * Q) ≤ 4503599627370496 * 2 ^ e) (by decide)
    have h4 := pow_le_inv h3
    rcases Nat.lt_or_ge (dn (k * Q)) e with h5 | h5
    · have h6 := hq _ h5
      exact Nat.mod_eq_zero_of_dvd (Nat.dvd_trans (Nat.dvd_of_mod_eq_zero h6) ⟨k, Nat.mul_comm _ _⟩)
    · have h6 : dn (k * Q) = e := by omega
      rw [h6] at b ⊢
      have h7 : k * Q = 4503599627370496 * 2 ^ e := by omega
      rw [h7]
      exact Nat.mul_mod_left _ _
theorem Q_dvd (n d : Nat) (h : d ≤ n) : 2 ^ n % 2 ^ d = 0 := by
  have e : 2 ^ n = 2 ^ d * 2 ^ (n - d) := by rw [← Nat.pow_add]; exact congrArg (fun i => 2 ^ i) (by omega)
  exact Nat.mod_eq_zero_of_dvd ⟨_, e⟩
theorem int_exact {k : Nat} (h : k ≤ 9007199254740992) : k * Qz % 2 ^ dn (k * Qz) = 0 :=
  int_exact_at q75 (pow_swap' _ _ 53 q74 52 q75 Qz (by decide) (by decide) Q_is (by decide)) (fun d hd => by rw [Q_is]; exact Q_dvd q74 d (Nat.le_of_lt_succ hd)) h
/-- the cases of holding a whole number against a double -/
theorem versus_cases {n : Int} {u : Nat} (h0 : -4611686018427387904 ≤ n) (h1 : n ≤ 4611686018427387904) :
    (kindZ u = 5 ∧ versusZ n u = (0, false)) ∨ (kindZ u = 4 ∧ versusZ n u = (if sgZ u then 1 else -1, true)) ∨ (kindZ u ≠ 5 ∧ kindZ u ≠ 4 ∧ versusZ n u = (cmpI (n * (Qz : Int)) (svalZ u), true)) := by
  by_cases h5 : kindZ u = 5
  · exact Or.inl ⟨h5, versus_out (Or.inl h5)⟩
  · have hb : ¬ (kindZ u = 5 ∨ n < -4611686018427387904 ∨ 4611686018427387904 < n) := by omega
    by_cases h4 : kindZ u = 4
    · exact Or.inr (Or.inl ⟨h4, versus_inf hb h4⟩)
    · exact Or.inr (Or.inr ⟨h5, h4, versus_fin hb h4⟩)
theorem versus_told {n : Int} {u : Nat} (h0 : -4611686018427387904 ≤ n) (h1 : n ≤ 4611686018427387904) : (versusZ n u).2 = decide (kindZ u ≠ 5) ∧ -1 ≤ (versusZ n u).1 ∧ (versusZ n u).1 ≤ 1 := by
  rcases versus_cases (u := u) h0 h1 with ⟨h, e⟩ | ⟨h, e⟩ | ⟨h, _, e⟩
  · rw [e]; exact ⟨(decide_eq_false (by omega)).symm, by decide, by decide⟩
  · rw [e]; exact ⟨(decide_eq_true (by omega)).symm, by cases sgZ u <;> decide, by cases sgZ u <;> decide⟩
  · rw [e]
    have := cmp_bound (n * (Qz : Int)) (svalZ u)
    exact ⟨(decide_eq_true h).symm, this.1, this.2⟩
end Go.Proofs.Ytaahaehgdamkdaa
