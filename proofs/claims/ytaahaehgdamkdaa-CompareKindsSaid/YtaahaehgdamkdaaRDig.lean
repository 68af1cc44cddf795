/- Doubles by their bits: what they are, how they stand, and how whole multiples of the least one are rounded. Plain arithmetic; conditions: none. -/
import GoSem.Core.Float
namespace Go.Proofs.Ytaahaehgdamkdaa
open Go

/-- a half, rounded to the even one: N / 2^k -/
def rhe (N k : Nat) : Nat := N / 2 ^ k + if 2 ^ k < 2 * (N % 2 ^ k) ∨ (2 ^ k = 2 * (N % 2 ^ k) ∧ N / 2 ^ k % 2 = 1) then 1 else 0

theorem rhe_zero (N : Nat) : rhe N 0 = N := by
  unfold rhe
  rw [Nat.pow_zero, Nat.div_one, Nat.mod_one, if_neg (by omega)]
  rfl

theorem rhe_ge (N k : Nat) : N / 2 ^ k ≤ rhe N k := Nat.le_add_right _ _
theorem rhe_le (N k : Nat) : rhe N k ≤ N / 2 ^ k + 1 := by unfold rhe; split <;> omega

theorem rhe_mono {N M : Nat} (k : Nat) (h : N ≤ M) : rhe N k ≤ rhe M k := by
  have hp : 0 < 2 ^ k := Nat.pow_pos (by decide)
  rcases Nat.lt_or_ge (N / 2 ^ k) (M / 2 ^ k) with h1 | h1
  · have := rhe_le N k
    have := rhe_ge M k
    omega
  · have h2 : N / 2 ^ k = M / 2 ^ k := Nat.le_antisymm (Nat.div_le_div_right h) h1
    have e1 := Nat.div_add_mod N (2 ^ k)
    have e2 := Nat.div_add_mod M (2 ^ k)
    rw [h2] at e1
    have h3 : N % 2 ^ k ≤ M % 2 ^ k := by omega
    unfold rhe
    rw [h2]
    generalize 2 ^ k = K at *
    split <;> split <;> omega

theorem rhe_exact {N k : Nat} (h : N % 2 ^ k = 0) : rhe N k = N / 2 ^ k := by
  have hp : 0 < 2 ^ k := Nat.pow_pos (by decide)
  unfold rhe
  rw [h, if_neg (by omega)]
  rfl

/-- how far a number is moved down -/
def dn (N : Nat) : Nat := N.log2 - 52
/-- the rung next to a number -/
def rnd (N : Nat) : Nat := dn N * 4503599627370496 + rhe N (dn N)

theorem dn_small {N : Nat} (h : N < 9007199254740992) : dn N = 0 := by
  unfold dn
  rcases Nat.eq_zero_or_pos N with h0 | h0
  · subst h0; rfl
  · have : N.log2 < 53 := (Nat.log2_lt (by omega)).2 (by omega)
    omega
theorem rnd_small {N : Nat} (h : N < 9007199254740992) : rnd N = N := by
  unfold rnd
  rw [dn_small h, rhe_zero]
  omega
theorem dn_big {N : Nat} (h : 9007199254740992 ≤ N) : 0 < dn N ∧ 4503599627370496 * 2 ^ dn N ≤ N ∧ N < 9007199254740992 * 2 ^ dn N := by
  have h0 : N ≠ 0 := by omega
  have h1 : 53 ≤ N.log2 := (Nat.le_log2 h0).2 (by omega)
  have e : N.log2 = dn N + 52 := by unfold dn; omega
  have h2 := Nat.log2_self_le h0
  have h3 := Nat.lt_log2_self (n := N)
  rw [e] at h2 h3
  refine ⟨by omega, ?_, ?_⟩
  · rw [Nat.pow_add] at h2; omega
  · rw [Nat.pow_add, Nat.pow_add] at h3; omega
theorem dn_uniq {N k : Nat} (h0 : k = 0 ∨ 4503599627370496 * 2 ^ k ≤ N) (h1 : N < 9007199254740992 * 2 ^ k) : dn N = k := by
  rcases Nat.lt_or_ge N 9007199254740992 with h | h
  · rw [dn_small h]
    rcases h0 with h0 | h0
    · exact h0.symm
    · rcases Nat.eq_zero_or_pos k with hk | hk
      · exact hk.symm
      · have : 2 ^ 1 ≤ 2 ^ k := Nat.pow_le_pow_right (by decide) hk
        omega
  · obtain ⟨a, b, c⟩ := dn_big h
    rcases Nat.lt_trichotomy (dn N) k with h2 | h2 | h2
    · have h3 : 2 ^ (dn N + 1) ≤ 2 ^ k := Nat.pow_le_pow_right (by decide) h2
      rw [Nat.pow_succ] at h3
      rcases h0 with h0 | h0 <;> omega
    · exact h2
    · have h3 : 2 ^ (k + 1) ≤ 2 ^ dn N := Nat.pow_le_pow_right (by decide) h2
      rw [Nat.pow_succ] at h3
      omega

theorem dn_mono {N M : Nat} (h : N ≤ M) : dn N ≤ dn M := by
  rcases Nat.lt_or_ge N 9007199254740992 with h1 | h1
  · rw [dn_small h1]; exact Nat.zero_le _
  · obtain ⟨a, b, c⟩ := dn_big h1
    obtain ⟨a2, b2, c2⟩ := dn_big (Nat.le_trans h1 h)
    rcases Nat.lt_or_ge (dn M) (dn N) with h2 | h2
    · have h3 : 2 ^ (dn M + 1) ≤ 2 ^ dn N := Nat.pow_le_pow_right (by decide) h2
      rw [Nat.pow_succ] at h3
      omega
    · exact h2

/-- what is kept has 53 digits, or all -/
theorem kept_lt (N : Nat) : N / 2 ^ dn N < 9007199254740992 := by
  have hp : 0 < 2 ^ dn N := Nat.pow_pos (by decide)
  rcases Nat.lt_or_ge N 9007199254740992 with h1 | h1
  · rw [dn_small h1]; simpa using h1
  · rw [Nat.div_lt_iff_lt_mul hp]
    exact (dn_big h1).2.2
theorem kept_ge {N : Nat} (h : 0 < dn N) : 4503599627370496 ≤ N / 2 ^ dn N := by
  have hp : 0 < 2 ^ dn N := Nat.pow_pos (by decide)
  rcases Nat.lt_or_ge N 9007199254740992 with h1 | h1
  · rw [dn_small h1] at h; omega
  · rw [Nat.le_div_iff_mul_le hp]
    exact (dn_big h1).2.1

theorem rnd_mono {N M : Nat} (h : N ≤ M) : rnd N ≤ rnd M := by
  have h1 := dn_mono h
  rcases Nat.lt_or_ge (dn N) (dn M) with h2 | h2
  · have a := kept_lt N
    have b := rhe_le N (dn N)
    have c := kept_ge (N := M) (by omega)
    have d := rhe_ge M (dn M)
    unfold rnd
    have e : (dn N + 1) * 4503599627370496 ≤ dn M * 4503599627370496 := Nat.mul_le_mul h2 (Nat.le_refl _)
    omega
  · have h3 : dn N = dn M := by omega
    have := rhe_mono (dn M) h
    unfold rnd
    rw [h3]
    omega

/-- what a rung is worth -/
def worthR (r : Nat) : Nat := if r < 4503599627370496 then r else (4503599627370496 + r % 4503599627370496) * 2 ^ (r / 4503599627370496 - 1)

theorem worth_low {r : Nat} (h : r < 9007199254740992) : worthR r = r := by
  unfold worthR
  split
  · rfl
  · have : r / 4503599627370496 = 1 := by omega
    rw [this]
    simp
    omega
theorem worth_high {r : Nat} (h : 4503599627370496 ≤ r) : worthR r = (4503599627370496 + r % 4503599627370496) * 2 ^ (r / 4503599627370496 - 1) := if_neg (by omega)

theorem rnd_worth (r : Nat) : rnd (worthR r) = r := by
  rcases Nat.lt_or_ge r 4503599627370496 with h | h
  · rw [worth_low (by omega), rnd_small (by omega)]
  · rw [worth_high h]
    obtain ⟨k, hk⟩ : ∃ k, r / 4503599627370496 = k + 1 := ⟨r / 4503599627370496 - 1, by omega⟩
    obtain ⟨f, hf⟩ : ∃ f, r % 4503599627370496 = f := ⟨_, rfl⟩
    have hfl : f < 4503599627370496 := by omega
    have hr : r = (k + 1) * 4503599627370496 + f := by omega
    have hp : 0 < 2 ^ k := Nat.pow_pos (by decide)
    rw [hk, hf, Nat.add_sub_cancel]
    have hd : dn ((4503599627370496 + f) * 2 ^ k) = k := by
      refine dn_uniq (Or.inr ?_) ?_
      · exact Nat.mul_le_mul (by omega) (Nat.le_refl _)
      · exact (Nat.mul_lt_mul_right hp).2 (by omega)
    unfold rnd
    rw [hd, rhe_exact (Nat.mul_mod_left _ _), Nat.mul_div_cancel _ hp]
    omega

/-- where nothing is lost, the rung is worth the number -/
theorem worth_rnd {N : Nat} (h : N % 2 ^ dn N = 0) : worthR (rnd N) = N := by
  have hp : 0 < 2 ^ dn N := Nat.pow_pos (by decide)
  have a := kept_lt N
  unfold rnd
  rw [rhe_exact h]
  rcases Nat.eq_zero_or_pos (dn N) with h0 | h0
  · rw [h0] at a ⊢
    rw [Nat.pow_zero, Nat.div_one] at *
    rw [Nat.zero_mul, Nat.zero_add]
    exact worth_low a
  · have b := kept_ge h0
    have e : N / 2 ^ dn N * 2 ^ dn N = N := Nat.div_mul_cancel (Nat.dvd_of_mod_eq_zero h)
    rw [worth_high (by omega)]
    obtain ⟨f, hf⟩ : ∃ f, N / 2 ^ dn N = 4503599627370496 + f := ⟨N / 2 ^ dn N - 4503599627370496, by omega⟩
    rw [hf] at e ⊢
    have e1 : (dn N * 4503599627370496 + (4503599627370496 + f)) % 4503599627370496 = f := by omega
    have e2 : (dn N * 4503599627370496 + (4503599627370496 + f)) / 4503599627370496 - 1 = dn N := by omega
    rw [e1, e2]
    exact e

theorem worth_step (r : Nat) : worthR r < worthR (r + 1) := by
  rcases Nat.lt_or_ge r 9007199254740991 with h | h
  · rw [worth_low (by omega), worth_low (by omega)]; omega
  · rw [worth_high (by omega), worth_high (by omega)]
    obtain ⟨k, hk⟩ : ∃ k, r / 4503599627370496 = k + 1 := ⟨r / 4503599627370496 - 1, by omega⟩
    have hp : 0 < 2 ^ k := Nat.pow_pos (by decide)
    by_cases hf : r % 4503599627370496 = 4503599627370495
    · have e1 : (r + 1) % 4503599627370496 = 0 := by omega
      have e2 : (r + 1) / 4503599627370496 = k + 2 := by omega
      rw [hk, hf, e1, e2, Nat.add_sub_cancel, show k + 2 - 1 = k + 1 by omega, Nat.pow_succ]
      omega
    · have e1 : (r + 1) % 4503599627370496 = r % 4503599627370496 + 1 := by omega
      have e2 : (r + 1) / 4503599627370496 = k + 1 := by omega
      rw [hk, e1, e2, Nat.add_sub_cancel]
      exact (Nat.mul_lt_mul_right hp).2 (by omega)
theorem worth_mono {r s : Nat} (h : r < s) : worthR r < worthR s := by
  obtain ⟨d, rfl⟩ : ∃ d, s = r + 1 + d := ⟨s - (r + 1), by omega⟩
  induction d with
  | zero => exact worth_step r
  | succ d ih => exact Nat.lt_trans (ih (by omega)) (worth_step _)
theorem worth_lt_iff {r s : Nat} : worthR r < worthR s ↔ r < s := by
  constructor
  · intro h
    rcases Nat.lt_or_ge r s with h1 | h1
    · exact h1
    · rcases Nat.eq_or_lt_of_le h1 with h2 | h2
      · subst h2; omega
      · have := worth_mono h2; omega
  · exact worth_mono
end Go.Proofs.Ytaahaehgdamkdaa
