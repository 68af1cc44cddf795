/- Rounding with three bits behind and one that stands for all below. Plain arithmetic; conditions: none. -/
import Derived.Test.YtmgcikjpgbhpgaaROrd
namespace Go.Proofs.Ytmgcikjpgbhpgaa
open Go

/-- moved down; the lowest bit tells whether anything went -/
def stk (X k : Nat) : Nat := if X % 2 ^ k = 0 then X / 2 ^ k else X / 2 ^ k + (1 - X / 2 ^ k % 2)
theorem stk_exact {X k : Nat} (h : X % 2 ^ k = 0) : stk X k = X / 2 ^ k := if_pos h
theorem stk_in {X k : Nat} (h : X % 2 ^ k ≠ 0) : stk X k = X / 2 ^ k + (1 - X / 2 ^ k % 2) := if_neg h
theorem stk_zero (X : Nat) : stk X 0 = X := by
  rw [stk_exact (by rw [Nat.pow_zero, Nat.mod_one]), Nat.pow_zero, Nat.div_one]
theorem stk_div (X k : Nat) : stk X k / 2 = X / 2 ^ k / 2 := by
  unfold stk; split <;> omega
theorem stk_odd {X k : Nat} (h : X % 2 ^ k ≠ 0) : stk X k % 2 = 1 := by
  rw [stk_in h]; omega

/-- one step down -/
def d1 (m : Nat) : Nat := m / 2 + m % 2 - m / 2 % 2 * (m % 2)
theorem d1_even {m : Nat} (h : m % 2 = 0) : d1 m = m / 2 := by unfold d1; rw [h]; omega
theorem d1_odd {m : Nat} (h : m % 2 = 1) : d1 m = m / 2 + (1 - m / 2 % 2) := by unfold d1; rw [h]; omega

theorem d1_stk (X k : Nat) : d1 (stk X k) = stk X (k + 1) := by
  have hp : 0 < 2 ^ k := Nat.pow_pos (by decide)
  have e1 : X / 2 ^ (k + 1) = X / 2 ^ k / 2 := by rw [Nat.pow_succ, Nat.div_div_eq_div_mul]
  have e2 : X % 2 ^ (k + 1) = X % 2 ^ k + 2 ^ k * (X / 2 ^ k % 2) := by rw [Nat.pow_succ, Nat.mod_mul]
  have e3 : X % 2 ^ (k + 1) = 0 ↔ X % 2 ^ k = 0 ∧ X / 2 ^ k % 2 = 0 := by
    rw [e2]
    constructor
    · intro h
      refine ⟨by omega, ?_⟩
      rcases Nat.eq_zero_or_pos (X / 2 ^ k % 2) with h1 | h1
      · exact h1
      · have := Nat.mul_pos hp h1; omega
    · rintro ⟨h1, h2⟩
      rw [h1, h2]; rfl
  by_cases h0 : X % 2 ^ k = 0
  · by_cases h1 : X / 2 ^ k % 2 = 0
    · rw [stk_exact h0, stk_exact (e3.2 ⟨h0, h1⟩), d1_even h1, e1]
    · rw [stk_exact h0, stk_in (fun h => h1 (e3.1 h).2), d1_odd (by omega), e1]
  · rw [stk_in (fun h => h0 (e3.1 h).1), d1_odd (stk_odd h0), stk_div, e1]

theorem d1_le (m : Nat) : d1 m ≤ (m + 1) / 2 := by
  rcases Nat.mod_two_eq_zero_or_one m with h | h
  · rw [d1_even h]; omega
  · rw [d1_odd h]; omega
theorem d1_ge (m : Nat) : m / 2 ≤ d1 m := by
  rcases Nat.mod_two_eq_zero_or_one m with h | h
  · rw [d1_even h]; omega
  · rw [d1_odd h]; omega

/-- what rounding hangs on: which half unit, and whether just there -/
def Half (m N K : Nat) : Prop := m / 4 = 2 * N / K ∧ (m % 4 = 0 ↔ 2 * N % K = 0)

theorem half_rhe {m N k : Nat} (h : Half m N (2 ^ k)) : m / 8 + (if 4 < m % 8 ∨ (m % 8 = 4 ∧ m / 8 % 2 = 1) then 1 else 0) = rhe N k ∧ m / 8 = N / 2 ^ k := by
  have hp : 0 < 2 ^ k := Nat.pow_pos (by decide)
  obtain ⟨h1, h2⟩ := h
  obtain ⟨q, hq⟩ : ∃ q, q = N / 2 ^ k := ⟨_, rfl⟩
  obtain ⟨r, hr⟩ : ∃ r, r = N % 2 ^ k := ⟨_, rfl⟩
  have hrl : r < 2 ^ k := by rw [hr]; exact Nat.mod_lt _ hp
  have hN : N = q * 2 ^ k + r := by rw [hq, hr, Nat.mul_comm]; exact (Nat.div_add_mod _ _).symm
  have hN2 : 2 * N = (2 * q) * 2 ^ k + 2 * r := by rw [hN, Nat.mul_add, Nat.mul_assoc]
  have hup : (2 ^ k < 2 * r ∨ (2 ^ k = 2 * r ∧ q % 2 = 1)) ↔ (4 < m % 8 ∨ (m % 8 = 4 ∧ m / 8 % 2 = 1)) ∧ m / 8 = q := by
    rcases Nat.lt_or_ge (2 * r) (2 ^ k) with h3 | h3
    · have e1 : 2 * N / 2 ^ k = 2 * q := by
        rw [hN2, Nat.add_comm, Nat.add_mul_div_right _ _ hp, Nat.div_eq_of_lt h3, Nat.zero_add]
      rw [e1] at h1
      constructor
      · intro h; omega
      · intro h; omega
    · have e1 : 2 * N / 2 ^ k = 2 * q + 1 := by
        have : 2 * N = (2 * q + 1) * 2 ^ k + (2 * r - 2 ^ k) := by rw [hN2, Nat.add_mul, Nat.one_mul]; omega
        rw [this, Nat.add_comm, Nat.add_mul_div_right _ _ hp, Nat.div_eq_of_lt (by omega), Nat.zero_add]
      have e2 : 2 * N % 2 ^ k = 2 * r - 2 ^ k := by
        have : 2 * N = (2 * q + 1) * 2 ^ k + (2 * r - 2 ^ k) := by rw [hN2, Nat.add_mul, Nat.one_mul]; omega
        rw [this, Nat.add_comm, Nat.add_mul_mod_self_right, Nat.mod_eq_of_lt (by omega)]
      rw [e1] at h1
      rw [e2] at h2
      omega
  have hq8 : m / 8 = q := by
    have e : 2 * N / 2 ^ k / 2 = q := by
      rw [Nat.div_div_eq_div_mul, Nat.mul_comm (2 ^ k) 2, Nat.mul_div_mul_left _ _ (by decide), hq]
    omega
  refine ⟨?_, by rw [hq8, hq]⟩
  unfold rhe
  rw [← hq, ← hr]
  rw [hq8] at hup ⊢
  congr 1
  by_cases h5 : 4 < m % 8 ∨ (m % 8 = 4 ∧ q % 2 = 1)
  · rw [if_pos h5, if_pos (hup.2 ⟨h5, rfl⟩)]
  · rw [if_neg h5, if_neg (fun h => h5 (hup.1 h).1)]

theorem half_exact {m N K : Nat} (hK : 0 < K) (h : 8 * N = m * K) : Half m N K := by
  obtain ⟨a, ha⟩ : ∃ a, a = m / 4 := ⟨_, rfl⟩
  obtain ⟨b, hb⟩ : ∃ b, b = m % 4 := ⟨_, rfl⟩
  have hm : m = 4 * a + b := by omega
  have hbl : b < 4 := by omega
  have e : 8 * N = 4 * (a * K) + b * K := by rw [h, hm, Nat.add_mul, Nat.mul_assoc]
  have hbK : b * K < 4 * K := (Nat.mul_lt_mul_right hK).2 hbl
  obtain ⟨c, hc⟩ : ∃ c, 2 * N = a * K + c := ⟨2 * N - a * K, by omega⟩
  have hc4 : 4 * c = b * K := by omega
  have hcK : c < K := by omega
  have e1 : 2 * N / K = a := by rw [hc, Nat.add_comm, Nat.add_mul_div_right _ _ hK, Nat.div_eq_of_lt hcK, Nat.zero_add]
  have e2 : 2 * N % K = c := by rw [hc, Nat.add_comm, Nat.add_mul_mod_self_right, Nat.mod_eq_of_lt hcK]
  refine ⟨by rw [e1, ha], ?_⟩
  rw [e2, ← hb]
  constructor
  · intro h0; rw [h0] at hc4; omega
  · intro h0
    rw [h0] at hc4
    rcases Nat.eq_zero_or_pos b with h1 | h1
    · exact h1
    · have := Nat.mul_pos h1 hK; omega

theorem eight_div (N K : Nat) : 8 * N / K / 4 = 2 * N / K := by
  rw [Nat.div_div_eq_div_mul, Nat.mul_comm K 4, show 8 * N = 4 * (2 * N) by omega, Nat.mul_div_mul_left _ _ (by decide)]
theorem eight_mod (N K : Nat) : 2 * N % K = 0 ↔ 8 * N % (4 * K) = 0 := by
  rw [show 8 * N = 4 * (2 * N) by omega, Nat.mul_mod_mul_left]; omega

theorem half_stk (N k : Nat) : Half (stk (8 * N) k) N (2 ^ k) := by
  have hp : 0 < 2 ^ k := Nat.pow_pos (by decide)
  by_cases h : 8 * N % 2 ^ k = 0
  · refine half_exact hp ?_
    rw [stk_exact h, Nat.div_mul_cancel (Nat.dvd_of_mod_eq_zero h)]
  · have h1 := stk_odd h
    have h2 := stk_div (8 * N) k
    refine ⟨?_, ?_⟩
    · rw [← eight_div]; omega
    · rw [eight_mod]
      constructor
      · intro h0; omega
      · intro h0
        exfalso
        apply h
        have : 2 ^ k ∣ 8 * N := Nat.dvd_trans ⟨4, by rw [Nat.mul_comm]⟩ (Nat.dvd_of_mod_eq_zero h0)
        exact Nat.mod_eq_zero_of_dvd this

theorem half_twice (N k : Nat) : Half (2 * stk (8 * N) (k + 1)) N (2 ^ k) := by
  have hp : 0 < 2 ^ k := Nat.pow_pos (by decide)
  have h2 := stk_div (8 * N) (k + 1)
  have e1 : 8 * N / 2 ^ (k + 1) / 2 = 2 * N / 2 ^ k := by
    rw [← eight_div, Nat.pow_succ, Nat.div_div_eq_div_mul, Nat.div_div_eq_div_mul, Nat.mul_assoc]
  refine ⟨by omega, ?_⟩
  rw [eight_mod N (2 ^ k)]
  have e2 : 8 * N % (4 * 2 ^ k) = 8 * N % 2 ^ (k + 1) + 2 ^ (k + 1) * (8 * N / 2 ^ (k + 1) % 2) := by
    have : 4 * 2 ^ k = 2 ^ (k + 1) * 2 := by rw [Nat.pow_succ]; omega
    rw [this, Nat.mod_mul]
  have hp1 : 0 < 2 ^ (k + 1) := Nat.pow_pos (by decide)
  by_cases h : 8 * N % 2 ^ (k + 1) = 0
  · rw [stk_exact h, e2, h]
    constructor
    · intro h0
      have : 8 * N / 2 ^ (k + 1) % 2 = 0 := by omega
      rw [this]; rfl
    · intro h0
      rcases Nat.eq_zero_or_pos (8 * N / 2 ^ (k + 1) % 2) with h3 | h3
      · omega
      · have := Nat.mul_pos hp1 h3; omega
  · have h1 := stk_odd h
    rw [e2]
    constructor
    · intro h0; omega
    · intro h0; omega

/-- what a rounding starts from -/
def Near (m N e : Nat) : Prop := 8 * N = m * 2 ^ (e - 1) ∨ (m = stk (8 * N) (e - 1) ∧ 18014398509481984 ≤ m) ∨ (m = 2 * stk (8 * N) e ∧ 36028797018963968 ≤ m)

theorem near_half {m N e : Nat} (he : 1 ≤ e) (h : Near m N e) : Half m N (2 ^ (e - 1)) := by
  rcases h with h | ⟨h, _⟩ | ⟨h, _⟩
  · exact half_exact (Nat.pow_pos (by decide)) h
  · rw [h]; exact half_stk N (e - 1)
  · rw [h]
    have := half_twice N (e - 1)
    rwa [show e - 1 + 1 = e by omega] at this

/-- a step up -/
theorem near_up {m N e : Nat} (he : 1 < e) (hm : m < 36028797018963968) (h : Near m N e) : Near (2 * m) N (e - 1) := by
  rcases h with h | ⟨h, h1⟩ | ⟨_, h1⟩
  · refine Or.inl ?_
    obtain ⟨j, hj⟩ : ∃ j, e = j + 2 := ⟨e - 2, by omega⟩
    subst hj
    rw [show j + 2 - 1 = j + 1 by omega, Nat.pow_succ] at h
    rw [show j + 2 - 1 - 1 = j by omega, h]
    rw [Nat.mul_comm 2 m, Nat.mul_assoc, Nat.mul_comm 2]
  · exact Or.inr (Or.inr ⟨by rw [h], by omega⟩)
  · omega

/-- rounded at last -/
theorem near_done {m N e : Nat} (he : 1 ≤ e) (hm : m < 72057594037927936) (hlo : 36028797018963968 ≤ m ∨ e = 1) (h : Near m N e) :
    m / 8 + (if 4 < m % 8 ∨ (m % 8 = 4 ∧ m / 8 % 2 = 1) then 1 else 0) + (e - 1) * 4503599627370496 = rnd N := by
  have hh := near_half he h
  obtain ⟨h1, h2⟩ := half_rhe hh
  have hp : 0 < 2 ^ (e - 1) := Nat.pow_pos (by decide)
  have hd : dn N = e - 1 := by
    refine dn_uniq ?_ ?_
    · rcases hlo with h3 | h3
      · refine Or.inr ?_
        rw [← Nat.le_div_iff_mul_le hp, ← h2]; omega
      · left; omega
    · rw [← Nat.div_lt_iff_lt_mul hp, ← h2]; omega
  unfold rnd
  rw [hd, h1]
  omega

theorem stk_stop {m j : Nat} (h : stk m j ≤ 1) (d : Nat) : stk m (j + d) = stk m j := by
  induction d with
  | zero => rfl
  | succ d ih =>
    rw [← Nat.add_assoc, ← d1_stk, ih]
    have : stk m j = 0 ∨ stk m j = 1 := by omega
    rcases this with h1 | h1 <;> rw [h1] <;> rfl
theorem stk_le (m k : Nat) : stk m k ≤ m + 1 := by
  have h := Nat.div_le_self m (2 ^ k)
  unfold stk
  split <;> omega

/-- near, moved down -/
theorem near_down {m N e : Nat} (he : 1 ≤ e) (h : 8 * N = m * 2 ^ (e - 1) ∨ m = stk (8 * N) (e - 1)) : d1 m = stk (8 * N) e := by
  have hp : 0 < 2 ^ (e - 1) := Nat.pow_pos (by decide)
  have h2 : m = stk (8 * N) (e - 1) := by
    rcases h with h | h
    · rw [h, stk_exact (Nat.mul_mod_left _ _), Nat.mul_div_cancel _ hp]
    · exact h
  have h3 := d1_stk (8 * N) (e - 1)
  rw [show e - 1 + 1 = e by omega] at h3
  rw [h2]; exact h3

/-! ### a double's parts -/
def scaleZ (u : Nat) : Nat := max 1 (exZ u)
def manZ (u : Nat) : Nat := if exZ u = 0 then frZ u else 4503599627370496 + frZ u
theorem scale_pos (u : Nat) : 1 ≤ scaleZ u := Nat.le_max_left _ _
theorem scale_lt (u : Nat) : scaleZ u < 2048 := by have := ex_lt u; unfold scaleZ; omega
theorem man_lt (u : Nat) : manZ u < 9007199254740992 := by have := fr_lt u; unfold manZ; split <;> omega
theorem val_parts (u : Nat) : valZ u = manZ u * 2 ^ (scaleZ u - 1) := by
  have hf := fr_lt u
  have hr := @rung_parts u
  unfold valZ manZ scaleZ
  by_cases h : exZ u = 0
  · rw [h] at hr
    rw [worth_low (by omega), if_pos h, h, hr]
    simp
  · rw [worth_high (by omega), if_neg h]
    have e1 : rungZ u % 4503599627370496 = frZ u := by omega
    have e2 : rungZ u / 4503599627370496 = exZ u := by omega
    rw [e1, e2, Nat.max_eq_right (by omega)]

/-! ### the sum, as the document reckons it -/
/-- how near is kept on the way down -/
def Going (m N e : Nat) : Prop := 8 * N = m * 2 ^ (e - 1) ∨ (m = stk (8 * N) (e - 1) ∧ 18014398509481984 ≤ m)
theorem going_near {m N e : Nat} (h : Going m N e) : Near m N e := by
  rcases h with h | h
  · exact Or.inl h
  · exact Or.inr (Or.inl h)
theorem going_down {m N e : Nat} (he : 1 ≤ e) (hm : 72057594037927936 ≤ m) (h : Going m N e) : Going (d1 m) N (e + 1) := by
  refine Or.inr ⟨?_, ?_⟩
  · rw [Nat.add_sub_cancel]
    refine near_down he ?_
    rcases h with h | h
    · exact Or.inl h
    · exact Or.inr h.1
  · have := d1_ge m; omega
theorem stk_one (m : Nat) : stk m 1 = d1 m := by
  have := d1_stk m 0
  rw [stk_zero] at this
  exact this.symm

theorem rd_zero : rdZ false 0 = 0 := by
  unfold rdZ wordZ
  rw [rnd_small (by omega), if_neg (by decide)]
  exact Nat.zero_min _
end Go.Proofs.Ytmgcikjpgbhpgaa
