/- Digits stand in the order of their numbers. Plain arithmetic; conditions: none. -/
import Derived.Test.YtekkmpahienaeaaDig
import Derived.Laws.Strings
namespace Go.Proofs.Ytekkmpahienaeaa
open Go

theorem lex_digits (B a b M N : Nat) (hM : M < B) (hN : N < B) : (M + B * a < N + B * b) ↔ (a < b ∨ (a = b ∧ M < N)) := by
  rcases Nat.lt_trichotomy a b with h | h | h
  · have h1 : B * (a + 1) ≤ B * b := Nat.mul_le_mul_left B h
    rw [Nat.mul_add, Nat.mul_one] at h1
    constructor
    · intro _; exact Or.inl h
    · intro _; omega
  · subst h
    constructor
    · intro h; exact Or.inr ⟨rfl, by omega⟩
    · rintro (h | ⟨_, h⟩) <;> omega
  · have h1 : B * (b + 1) ≤ B * a := Nat.mul_le_mul_left B h
    rw [Nat.mul_add, Nat.mul_one] at h1
    constructor
    · intro _; omega
    · rintro (h2 | ⟨h2, _⟩) <;> omega

theorem be_less_mod (k : Nat) : ∀ m n, Op.bytesLess (be k m) (be k n) = decide (m % 256 ^ k < n % 256 ^ k) := by
  induction k with
  | zero => intro m n; simp [be, Op.bytesLess, Nat.mod_one]
  | succ k ih =>
    intro m n
    have hB : 0 < 256 ^ k := Nat.pow_pos (by omega)
    have key := lex_digits (256 ^ k) (m / 256 ^ k % 256) (n / 256 ^ k % 256) (m % 256 ^ k) (n % 256 ^ k) (Nat.mod_lt _ hB) (Nat.mod_lt _ hB)
    have h1 : (UInt8.ofNat (m / 256 ^ k % 256)).toNat = m / 256 ^ k % 256 := by simp [UInt8.toNat_ofNat']
    have h2 : (UInt8.ofNat (n / 256 ^ k % 256)).toNat = n / 256 ^ k % 256 := by simp [UInt8.toNat_ofNat']
    rw [be_left, be_left, Op.bytesLess, ih, Nat.pow_succ, Nat.mod_mul, Nat.mod_mul]
    rw [Bool.eq_iff_iff]
    simp only [Bool.or_eq_true, Bool.and_eq_true, decide_eq_true_eq, beq_iff_eq]
    rw [key, UInt8.lt_iff_toNat_lt, h1, h2, ← UInt8.toNat_inj, h1, h2]

theorem be_less (k m n : Nat) (hm : m < 256 ^ k) (hn : n < 256 ^ k) : Op.bytesLess (be k m) (be k n) = decide (m < n) := by
  rw [be_less_mod, Nat.mod_eq_of_lt hm, Nat.mod_eq_of_lt hn]

theorem be_same (k m n : Nat) (hm : m < 256 ^ k) (hn : n < 256 ^ k) : (be k m == be k n) = decide (m = n) := by
  rw [Bool.eq_iff_iff]
  simp only [beq_iff_eq, decide_eq_true_eq]
  exact ⟨be_inj hm hn, fun h => by rw [h]⟩

theorem be_less_int (k m n : Nat) (hm : m < 256 ^ k) (hn : n < 256 ^ k) : Op.bytesLess (be k m) (be k n) = decide ((m : Int) < (n : Int)) := by
  rw [be_less k m n hm hn, Bool.eq_iff_iff]
  simp only [decide_eq_true_eq]
  omega
theorem be_same_int (k m n : Nat) (hm : m < 256 ^ k) (hn : n < 256 ^ k) : (be k m == be k n) = ((m : Int) == (n : Int)) := by
  rw [be_same k m n hm hn, Bool.eq_iff_iff]
  simp only [decide_eq_true_eq, beq_iff_eq]
  omega

end Go.Proofs.Ytekkmpahienaeaa
