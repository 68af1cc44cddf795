/- Rounding with three bits behind and one that stands for all below. Plain arithmetic; conditions: none. -/
import Derived.Test.YtmgcikjpgbhpgaaROrd
namespace Go.Proofs.Ytmgcikjpgbhpgaa
open Go

/-- moved down; the lowest bit tells whether anything went -/
def stk (X k : Nat) : Nat := if X % 2 ^ k = 0 then X / 2 ^ k else X / 2 ^ k + (1 - X / 2 ^ k % 2)
theorem stk_exact {X k : Nat} (h : X % 2 ^ k = 0) : stk X k = X / 2 ^ k := if_pos h
theorem stk_in {X k : Nat} (h : X % 2 ^ k ≠ 0) : stk X k = X / 2 ^ k + (1 - X / 2 ^ k % 2) := if_neg h
theorem stk_zero (X : Nat) : stk X 0 = X := by
  rw [stk_exact (by rw [Nat.pow_zero, Nat.mod_one]), Nat.pow_zero, Nat.div_one]
theorem stk_div (X k : Nat) : stk X k / 2 = X / 2 ^ k / 2 := by
  unfold stk; split <;> omega
theorem stk_odd {X k : Nat} (h : X % 2 ^ k ≠ 0) : stk X k % 2 = 1 := by
  rw [stk_in h]; omega

/-- one step down -/
def d1 (m : Nat) : Nat := m / 2 + m % 2 - m / 2 % 2 * (m % 2)
theorem d1_even {m : Nat} (h : m % 2 = 0) : d1 m = m / 2 := by unfold d1; rw [h]; omega
theorem d1_odd {m : Nat} (h : m % 2 = 1) : d1 m = m / 2 + (1 - m / 2 % 2) := by unfold d1; rw [h]; omega

theorem d1_stk (X k : Nat) : d1 (stk X k) = stk X (k + 1) := by
  have hp : 0 < 2 ^ k := Nat.pow_pos (by decide)
  have e1 : X / 2 ^ (k + 1) = X / 2 ^ k / 2 := by rw [Nat.pow_succ, Nat.div_div_eq_div_mul]
  have e2 : X % 2 ^ (k + 1) = X % 2 ^ k + 2 ^ k * (X / 2 ^ k % 2) := by rw [Nat.pow_succ, Nat.mod_mul]
  have e3 : X % 2 ^ (k + 1) = 0 ↔ X % 2 ^ k = 0 ∧ X / 2 ^ k % 2 = 0 := by
    rw [e2]
    constructor
    · intro h
      refine ⟨by omega, ?_⟩
      rcases Nat.eq_zero_or_pos (X / 2 ^ k % 2) with h1 | h1
      · exact h1
      · have := Nat.mul_pos hp h1; omega
    · rintro ⟨h1, h2⟩
      rw [h1, h2]; rfl
  by_cases h0 : X % 2 ^ k = 0
  · by_cases h1 : X / 2 ^ k % 2 = 0
    · rw [stk_exact h0, stk_exact (e3.2 ⟨h0, h1⟩), d1_even h1, e1]
    · rw [stk_exact h0, stk_in (fun h => h1 (e3.1 h).2), d1_odd (by omega), e1]
  · rw [stk_in (fun h => h0 (e3.1 h).1), d1_odd (stk_odd h0), stk_div, e1]

theorem d1_le (m : Nat) : d1 m ≤ (m + 1) / 2 := by
  rcases Nat.mod_two_eq_zero_or_one m with h | h
  · rw [d1_even h]; omega
  · rw [d1_odd h]; omega
theorem d1_ge (m : Nat) : m / 2 ≤ d1 m := by
  rcases Nat.mod_two_eq_zero_or_one m with h | h
  · rw [d1_even h]; omega
  · rw [d1_odd h]; omega

theorem stk_scale (X k j : Nat) : stk (X * 2 ^ j) (k + j) = stk X k := by
  have hp : 0 < 2 ^ j := Nat.pow_pos (by decide)
  have e1 : X * 2 ^ j / 2 ^ (k + j) = X / 2 ^ k := by rw [Nat.pow_add, Nat.mul_div_mul_right _ _ hp]
  have e2 : X * 2 ^ j % 2 ^ (k + j) = X % 2 ^ k * 2 ^ j := by rw [Nat.pow_add, Nat.mul_mod_mul_right]
  have e3 : X * 2 ^ j % 2 ^ (k + j) = 0 ↔ X % 2 ^ k = 0 := by
    rw [e2, Nat.mul_eq_zero]; omega
  unfold stk
  simp only [e1, e3]

/-- sums and differences with an even number moved down not at all -/
theorem stk_add (x Y k : Nat) (hx : x % 2 = 0) : stk (x * 2 ^ k + Y) k = x + stk Y k := by
  have hp : 0 < 2 ^ k := Nat.pow_pos (by decide)
  have e1 : (x * 2 ^ k + Y) / 2 ^ k = x + Y / 2 ^ k := by rw [Nat.add_comm, Nat.add_mul_div_right _ _ hp, Nat.add_comm]
  have e2 : (x * 2 ^ k + Y) % 2 ^ k = Y % 2 ^ k := by rw [Nat.add_comm, Nat.add_mul_mod_self_right]
  unfold stk
  rw [e1, e2]
  split
  · rfl
  · omega
theorem stk_lt {x Y k : Nat} (hx : x % 2 = 0) : stk Y k < x ↔ Y < x * 2 ^ k := by
  have hp : 0 < 2 ^ k := Nat.pow_pos (by decide)
  have h1 : Y / 2 ^ k < x ↔ Y < x * 2 ^ k := Nat.div_lt_iff_lt_mul hp
  by_cases h : Y % 2 ^ k = 0
  · rw [stk_exact h]; exact h1
  · rw [stk_in h, ← h1]; omega
theorem stk_eq {x Y k : Nat} (hx : x % 2 = 0) : stk Y k = x ↔ Y = x * 2 ^ k := by
  have hp : 0 < 2 ^ k := Nat.pow_pos (by decide)
  constructor
  · intro h
    by_cases h0 : Y % 2 ^ k = 0
    · rw [stk_exact h0] at h
      rw [← h, Nat.div_mul_cancel (Nat.dvd_of_mod_eq_zero h0)]
    · have := stk_odd h0; omega
  · intro h
    rw [h, stk_exact (Nat.mul_mod_left _ _), Nat.mul_div_cancel _ hp]
theorem stk_sub {x Y k : Nat} (hx : x % 2 = 0) (h : Y ≤ x * 2 ^ k) : stk (x * 2 ^ k - Y) k = x - stk Y k := by
  have hp : 0 < 2 ^ k := Nat.pow_pos (by decide)
  by_cases h0 : Y % 2 ^ k = 0
  · have e : Y = Y / 2 ^ k * 2 ^ k := (Nat.div_mul_cancel (Nat.dvd_of_mod_eq_zero h0)).symm
    have e2 : x * 2 ^ k - Y = (x - Y / 2 ^ k) * 2 ^ k := by rw [Nat.sub_mul, ← e]
    rw [stk_exact h0, e2, stk_exact (Nat.mul_mod_left _ _), Nat.mul_div_cancel _ hp]
  · obtain ⟨q, hq⟩ : ∃ q, q = Y / 2 ^ k := ⟨_, rfl⟩
    obtain ⟨r, hr⟩ : ∃ r, r = Y % 2 ^ k := ⟨_, rfl⟩
    have hrl : r < 2 ^ k := by rw [hr]; exact Nat.mod_lt _ hp
    have hr0 : r ≠ 0 := by rw [hr]; exact h0
    have hY : Y = q * 2 ^ k + r := by rw [hq, hr, Nat.mul_comm]; exact (Nat.div_add_mod _ _).symm
    have hqx : q < x := by
      rw [hq, Nat.div_lt_iff_lt_mul hp]
      rcases Nat.lt_or_ge Y (x * 2 ^ k) with h1 | h1
      · exact h1
      · have : Y = x * 2 ^ k := by omega
        rw [this, Nat.mul_mod_left] at h0; omega
    obtain ⟨d, hd⟩ : ∃ d, x = q + 1 + d := ⟨x - (q + 1), by omega⟩
    have e : x * 2 ^ k - Y = d * 2 ^ k + (2 ^ k - r) := by
      rw [hd, hY, Nat.add_mul, Nat.add_mul, Nat.one_mul]; omega
    have e1 : (x * 2 ^ k - Y) / 2 ^ k = d := by
      rw [e, Nat.add_comm, Nat.add_mul_div_right _ _ hp, Nat.div_eq_of_lt (by omega), Nat.zero_add]
    have e2 : (x * 2 ^ k - Y) % 2 ^ k ≠ 0 := by
      rw [e, Nat.add_comm, Nat.add_mul_mod_self_right, Nat.mod_eq_of_lt (by omega)]; omega
    rw [stk_in e2, e1, stk_in h0, ← hq]
    omega
/-- what rounding hangs on: which half unit, and whether just there -/
def Half (m N K : Nat) : Prop := m / 4 = 2 * N / K ∧ (m % 4 = 0 ↔ 2 * N % K = 0)

theorem half_rhe {m N k : Nat} (h : Half m N (2 ^ k)) : m / 8 + (if 4 < m % 8 ∨ (m % 8 = 4 ∧ m / 8 % 2 = 1) then 1 else 0) = rhe N k ∧ m / 8 = N / 2 ^ k := by
  have hp : 0 < 2 ^ k := Nat.pow_pos (by decide)
  obtain ⟨h1, h2⟩ := h
  obtain ⟨q, hq⟩ : ∃ q, q = N / 2 ^ k := ⟨_, rfl⟩
  obtain ⟨r, hr⟩ : ∃ r, r = N % 2 ^ k := ⟨_, rfl⟩
  have hrl : r < 2 ^ k := by rw [hr]; exact Nat.mod_lt _ hp
  have hN : N = q * 2 ^ k + r := by rw [hq, hr, Nat.mul_comm]; exact (Nat.div_add_mod _ _).symm
  have hN2 : 2 * N = (2 * q) * 2 ^ k + 2 * r := by rw [hN, Nat.mul_add, Nat.mul_assoc]
  have hup : (2 ^ k < 2 * r ∨ (2 ^ k = 2 * r ∧ q % 2 = 1)) ↔ (4 < m % 8 ∨ (m % 8 = 4 ∧ m / 8 % 2 = 1)) ∧ m / 8 = q := by
    rcases Nat.lt_or_ge (2 * r) (2 ^ k) with h3 | h3
    · have e1 : 2 * N / 2 ^ k = 2 * q := by
        rw [hN2, Nat.add_comm, Nat.add_mul_div_right _ _ hp, Nat.div_eq_of_lt h3, Nat.zero_add]
      rw [e1] at h1
      constructor
      · intro h; omega
      · intro h; omega
    · have e1 : 2 * N / 2 ^ k = 2 * q + 1 := by
        have : 2 * N = (2 * q + 1) * 2 ^ k + (2 * r - 2 ^ k) := by rw [hN2, Nat.add_mul, Nat.one_mul]; omega
        rw [this, Nat.add_comm, Nat.add_mul_div_right _ _ hp, Nat.div_eq_of_lt (by omega), Nat.zero_add]
      have e2 : 2 * N % 2 ^ k = 2 * r - 2 ^ k := by
        have : 2 * N = (2 * q + 1) * 2 ^ k + (2 * r - 2 ^ k) := by rw [hN2, Nat.add_mul, Nat.one_mul]; omega
        rw [this, Nat.add_comm, Nat.add_mul_mod_self_right, Nat.mod_eq_of_lt (by omega)]
      rw [e1] at h1
      rw [e2] at h2
      omega
  have hq8 : m / 8 = q := by
    have e : 2 * N / 2 ^ k / 2 = q := by
      rw [Nat.div_div_eq_div_mul, Nat.mul_comm (2 ^ k) 2, Nat.mul_div_mul_left _ _ (by decide), hq]
    omega
  refine ⟨?_, by rw [hq8, hq]⟩
  unfold rhe
  rw [← hq, ← hr]
  rw [hq8] at hup ⊢
  congr 1
  by_cases h5 : 4 < m % 8 ∨ (m % 8 = 4 ∧ q % 2 = 1)
  · rw [if_pos h5, if_pos (hup.2 ⟨h5, rfl⟩)]
  · rw [if_neg h5, if_neg (fun h => h5 (hup.1 h).1)]

theorem half_exact {m N K : Nat} (hK : 0 < K) (h : 8 * N = m * K) : Half m N K := by
  obtain ⟨a, ha⟩ : ∃ a, a = m / 4 := ⟨_, rfl⟩
  obtain ⟨b, hb⟩ : ∃ b, b = m % 4 := ⟨_, rfl⟩
  have hm : m = 4 * a + b := by omega
  have hbl : b < 4 := by omega
  have e : 8 * N = 4 * (a * K) + b * K := by rw [h, hm, Nat.add_mul, Nat.mul_assoc]
  have hbK : b * K < 4 * K := (Nat.mul_lt_mul_right hK).2 hbl
  obtain ⟨c, hc⟩ : ∃ c, 2 * N = a * K + c := ⟨2 * N - a * K, by omega⟩
  have hc4 : 4 * c = b * K := by omega
  have hcK : c < K := by omega
  have e1 : 2 * N / K = a := by rw [hc, Nat.add_comm, Nat.add_mul_div_right _ _ hK, Nat.div_eq_of_lt hcK, Nat.zero_add]
  have e2 : 2 * N % K = c := by rw [hc, Nat.add_comm, Nat.add_mul_mod_self_right, Nat.mod_eq_of_lt hcK]
  refine ⟨by rw [e1, ha], ?_⟩
  rw [e2, ← hb]
  constructor
  · intro h0; rw [h0] at hc4; omega
  · intro h0
    rw [h0] at hc4
    rcases Nat.eq_zero_or_pos b with h1 | h1
    · exact h1
    · have := Nat.mul_pos h1 hK; omega

theorem eight_div (N K : Nat) : 8 * N / K / 4 = 2 * N / K := by
  rw [Nat.div_div_eq_div_mul, Nat.mul_comm K 4, show 8 * N = 4 * (2 * N) by omega, Nat.mul_div_mul_left _ _ (by decide)]
theorem eight_mod (N K : Nat) : 2 * N % K = 0 ↔ 8 * N % (4 * K) = 0 := by
  rw [show 8 * N = 4 * (2 * N) by omega, Nat.mul_mod_mul_left]; omega

theorem half_stk (N k : Nat) : Half (stk (8 * N) k) N (2 ^ k) := by
  have hp : 0 < 2 ^ k := Nat.pow_pos (by decide)
  by_cases h : 8 * N % 2 ^ k = 0
  · refine half_exact hp ?_
    rw [stk_exact h, Nat.div_mul_cancel (Nat.dvd_of_mod_eq_zero h)]
  · have h1 := stk_odd h
    have h2 := stk_div (8 * N) k
    refine ⟨?_, ?_⟩
    · rw [← eight_div]; omega
    · rw [eight_mod]
      constructor
      · intro h0; omega
      · intro h0
        exfalso
        apply h
        have : 2 ^ k ∣ 8 * N := Nat.dvd_trans ⟨4, by rw [Nat.mul_comm]⟩ (Nat.dvd_of_mod_eq_zero h0)
        exact Nat.mod_eq_zero_of_dvd this

theorem half_twice (N k : Nat) : Half (2 * stk (8 * N) (k + 1)) N (2 ^ k) := by
  have hp : 0 < 2 ^ k := Nat.pow_pos (by decide)
  have h2 := stk_div (8 * N) (k + 1)
  have e1 : 8 * N / 2 ^ (k + 1) / 2 = 2 * N / 2 ^ k := by
    rw [← eight_div, Nat.pow_succ, Nat.div_div_eq_div_mul, Nat.div_div_eq_div_mul, Nat.mul_assoc]
  refine ⟨by omega, ?_⟩
  rw [eight_mod N (2 ^ k)]
  have e2 : 8 * N % (4 * 2 ^ k) = 8 * N % 2 ^ (k + 1) + 2 ^ (k + 1) * (8 * N / 2 ^ (k + 1) % 2) := by
    have : 4 * 2 ^ k = 2 ^ (k + 1) * 2 := by rw [Nat.pow_succ]; omega
    rw [this, Nat.mod_mul]
  have hp1 : 0 < 2 ^ (k + 1) := Nat.pow_pos (by decide)
  by_cases h : 8 * N % 2 ^ (k + 1) = 0
  · rw [stk_exact h, e2, h]
    constructor
    · intro h0
      have : 8 * N / 2 ^ (k + 1) % 2 = 0 := by omega
      rw [this]; rfl
    · intro h0
      rcases Nat.eq_zero_or_pos (8 * N / 2 ^ (k + 1) % 2) with h3 | h3
      · omega
      · have := Nat.mul_pos hp1 h3; omega
  · have h1 := stk_odd h
    rw [e2]
    constructor
    · intro h0; omega
    · intro h0; omega

/-- what a rounding starts from -/
def Near (m N e : Nat) : Prop := 8 * N = m * 2 ^ (e - 1) ∨ (m = stk (8 * N) (e - 1) ∧ 18014398509481984 ≤ m) ∨ (m = 2 * stk (8 * N) e ∧ 36028797018963968 ≤ m)

theorem near_half {m N e : Nat} (he : 1 ≤ e) (h : Near m N e) : Half m N (2 ^ (e - 1)) := by
  rcases h with h | ⟨h, _⟩ | ⟨h, _⟩
  · exact half_exact (Nat.pow_pos (by decide)) h
  · rw [h]; exact half_stk N (e - 1)
  · rw [h]
    have := half_twice N (e - 1)
    rwa [show e - 1 + 1 = e by omega] at this

/-- a step up -/
theorem near_up {m N e : Nat} (he : 1 < e) (hm : m < 36028797018963968) (h : Near m N e) : Near (2 * m) N (e - 1) := by
  rcases h with h | ⟨h, h1⟩ | ⟨_, h1⟩
  · refine Or.inl ?_
    obtain ⟨j, hj⟩ : ∃ j, e = j + 2 := ⟨e - 2, by omega⟩
    subst hj
    rw [show j + 2 - 1 = j + 1 by omega, Nat.pow_succ] at h
    rw [show j + 2 - 1 - 1 = j by omega, h]
    rw [Nat.mul_comm 2 m, Nat.mul_assoc, Nat.mul_comm 2]
  · exact Or.inr (Or.inr ⟨by rw [h], by omega⟩)
  · omega

/-- rounded at last -/
theorem near_done {m N e : Nat} (he : 1 ≤ e) (hm : m < 72057594037927936) (hlo : 36028797018963968 ≤ m ∨ e = 1) (h : Near m N e) :
    m / 8 + (if 4 < m % 8 ∨ (m % 8 = 4 ∧ m / 8 % 2 = 1) then 1 else 0) + (e - 1) * 4503599627370496 = rnd N := by
  have hh := near_half he h
  obtain ⟨h1, h2⟩ := half_rhe hh
  have hp : 0 < 2 ^ (e - 1) := Nat.pow_pos (by decide)
  have hd : dn N = e - 1 := by
    refine dn_uniq ?_ ?_
    · rcases hlo with h3 | h3
      · refine Or.inr ?_
        rw [← Nat.le_div_iff_mul_le hp, ← h2]; omega
      · left; omega
    · rw [← Nat.div_lt_iff_lt_mul hp, ← h2]; omega
  unfold rnd
  rw [hd, h1]
  omega

theorem stk_stop {m j : Nat} (h : stk m j ≤ 1) (d : Nat) : stk m (j + d) = stk m j := by
  induction d with
  | zero => rfl
  | succ d ih =>
    rw [← Nat.add_assoc, ← d1_stk, ih]
    have : stk m j = 0 ∨ stk m j = 1 := by omega
    rcases this with h1 | h1 <;> rw [h1] <;> rfl
theorem stk_le (m k : Nat) : stk m k ≤ m + 1 := by
  have h := Nat.div_le_self m (2 ^ k)
  unfold stk
  split <;> omega

/-- near, moved down -/
theorem near_down {m N e : Nat} (he : 1 ≤ e) (h : 8 * N = m * 2 ^ (e - 1) ∨ m = stk (8 * N) (e - 1)) : d1 m = stk (8 * N) e := by
  have hp : 0 < 2 ^ (e - 1) := Nat.pow_pos (by decide)
  have h2 : m = stk (8 * N) (e - 1) := by
    rcases h with h | h
    · rw [h, stk_exact (Nat.mul_mod_left _ _), Nat.mul_div_cancel _ hp]
    · exact h
  have h3 := d1_stk (8 * N) (e - 1)
  rw [show e - 1 + 1 = e by omega] at h3
  rw [h2]; exact h3

/-! ### a double's parts -/
def scaleZ (u : Nat) : Nat := max 1 (exZ u)
def manZ (u : Nat) : Nat := if exZ u = 0 then frZ u else 4503599627370496 + frZ u
theorem scale_pos (u : Nat) : 1 ≤ scaleZ u := Nat.le_max_left _ _
theorem scale_lt (u : Nat) : scaleZ u < 2048 := by have := ex_lt u; unfold scaleZ; omega
theorem man_lt (u : Nat) : manZ u < 9007199254740992 := by have := fr_lt u; unfold manZ; split <;> omega
theorem man_big {u : Nat} (h : 1 < scaleZ u) : 4503599627370496 ≤ manZ u := by
  unfold scaleZ at h; unfold manZ; rw [if_neg (by omega)]; omega
theorem val_parts (u : Nat) : valZ u = manZ u * 2 ^ (scaleZ u - 1) := by
  have hf := fr_lt u
  have hr := @rung_parts u
  unfold valZ manZ scaleZ
  by_cases h : exZ u = 0
  · rw [h] at hr
    rw [worth_low (by omega), if_pos h, h, hr]
    simp
  · rw [worth_high (by omega), if_neg h]
    have e1 : rungZ u % 4503599627370496 = frZ u := by omega
    have e2 : rungZ u / 4503599627370496 = exZ u := by omega
    rw [e1, e2, Nat.max_eq_right (by omega)]

/-! ### the sum, as the document reckons it -/
theorem sum_comm (a b : Nat) : sumZ a b = sumZ b a := by
  unfold sumZ sumS
  rw [Int.add_comm, Bool.and_comm]
/-- how near is kept on the way down -/
def Going (m N e : Nat) : Prop := 8 * N = m * 2 ^ (e - 1) ∨ (m = stk (8 * N) (e - 1) ∧ 18014398509481984 ≤ m)
theorem going_near {m N e : Nat} (h : Going m N e) : Near m N e := by
  rcases h with h | h
  · exact Or.inl h
  · exact Or.inr (Or.inl h)
theorem going_down {m N e : Nat} (he : 1 ≤ e) (hm : 72057594037927936 ≤ m) (h : Going m N e) : Going (d1 m) N (e + 1) := by
  refine Or.inr ⟨?_, ?_⟩
  · rw [Nat.add_sub_cancel]
    refine near_down he ?_
    rcases h with h | h
    · exact Or.inl h
    · exact Or.inr h.1
  · have := d1_ge m; omega
theorem stk_one (m : Nat) : stk m 1 = d1 m := by
  have := d1_stk m 0
  rw [stk_zero] at this
  exact this.symm

/-- the greater one's eightfold mantissa, and the other's moved down -/
theorem near_sum (x y A B e : Nat) (hx8 : x % 8 = 0) (hA : 8 * A = x * 2 ^ (e - 1)) (hy : y = stk (8 * B) (e - 1)) (hbig : 8 * B = y * 2 ^ (e - 1) ∨ (36028797018963968 ≤ x ∧ y ≤ 4503599627370497)) :
    Going (x + y) (A + B) e ∧ (y < x ↔ B < A) ∧ (y = x ↔ B = A) ∧ (B ≤ A → Going (x - y) (A - B) e) ∧ (A ≤ B → Going (y - x) (B - A) e) := by
  have hp : 0 < 2 ^ (e - 1) := Nat.pow_pos (by decide)
  have hx : x % 2 = 0 := by omega
  have h1 : y < x ↔ B < A := by
    rw [hy, stk_lt hx]
    rw [← hA]; omega
  have h2 : y = x ↔ B = A := by
    rw [hy, stk_eq hx, ← hA]; omega
  refine ⟨?_, h1, h2, fun hBA => ?_, fun hAB => ?_⟩
  · rcases hbig with hb | ⟨hb, _⟩
    · left; rw [Nat.mul_add, hA, hb, Nat.add_mul]
    · right
      refine ⟨?_, by omega⟩
      rw [Nat.mul_add, hA, stk_add x _ _ hx, hy]
  · rcases hbig with hb | ⟨hb, hb2⟩
    · left; rw [Nat.mul_sub, hA, hb, Nat.sub_mul]
    · right
      refine ⟨?_, by omega⟩
      rw [Nat.mul_sub, hA, stk_sub hx (by rw [← hA]; omega), hy]
  · rcases hbig with hb | ⟨hb, hb2⟩
    · left; rw [Nat.mul_sub, hA, hb, Nat.sub_mul]
    · exfalso; omega

/-- the two of a sum, made ready -/
theorem sum_ready (a b : Nat) (h : scaleZ b ≤ scaleZ a) :
    8 * valZ a = 8 * manZ a * 2 ^ (scaleZ a - 1) ∧ stk (8 * manZ b) (scaleZ a - scaleZ b) = stk (8 * valZ b) (scaleZ a - 1) ∧
    (8 * valZ b = stk (8 * manZ b) (scaleZ a - scaleZ b) * 2 ^ (scaleZ a - 1) ∨ (36028797018963968 ≤ 8 * manZ a ∧ stk (8 * manZ b) (scaleZ a - scaleZ b) ≤ 4503599627370497)) := by
  have va := val_parts a
  have vb := val_parts b
  have pa := scale_pos a
  have pb := scale_pos b
  have mb := man_lt b
  have e2 : stk (8 * manZ b) (scaleZ a - scaleZ b) = stk (8 * valZ b) (scaleZ a - 1) := by
    have := stk_scale (8 * manZ b) (scaleZ a - scaleZ b) (scaleZ b - 1)
    rw [show scaleZ a - scaleZ b + (scaleZ b - 1) = scaleZ a - 1 by omega] at this
    rw [← this, vb, Nat.mul_assoc]
  refine ⟨by rw [va, Nat.mul_assoc], e2, ?_⟩
  rcases Nat.lt_or_ge (scaleZ a - scaleZ b) 4 with h1 | h1
  · left
    obtain ⟨d, hd⟩ : ∃ d, scaleZ a - scaleZ b = d := ⟨_, rfl⟩
    rw [hd] at h1 ⊢
    have hdiv : 8 * manZ b % 2 ^ d = 0 := by
      have : d = 0 ∨ d = 1 ∨ d = 2 ∨ d = 3 := by omega
      rcases this with h2 | h2 | h2 | h2 <;> subst h2 <;> simp <;> omega
    have e3 : 2 ^ (scaleZ a - 1) = 2 ^ d * 2 ^ (scaleZ b - 1) := by rw [← Nat.pow_add]; congr 1; omega
    rw [stk_exact hdiv, e3, ← Nat.mul_assoc, Nat.div_mul_cancel (Nat.dvd_of_mod_eq_zero hdiv), vb, Nat.mul_assoc]
  · right
    have ha := man_big (u := a) (by omega)
    refine ⟨by omega, ?_⟩
    have hp : 2 ^ 4 ≤ 2 ^ (scaleZ a - scaleZ b) := Nat.pow_le_pow_right (by decide) h1
    have hq : 8 * manZ b / 2 ^ (scaleZ a - scaleZ b) ≤ 8 * manZ b / 2 ^ 4 := Nat.div_le_div_left hp (by decide)
    unfold stk
    split <;> omega

theorem sum_facts (p q : Nat) (h : scaleZ q ≤ scaleZ p) :
    Going (8 * manZ p + stk (8 * manZ q) (scaleZ p - scaleZ q)) (valZ p + valZ q) (scaleZ p) ∧
    (stk (8 * manZ q) (scaleZ p - scaleZ q) < 8 * manZ p ↔ valZ q < valZ p) ∧ (stk (8 * manZ q) (scaleZ p - scaleZ q) = 8 * manZ p ↔ valZ q = valZ p) ∧
    (valZ q ≤ valZ p → Going (8 * manZ p - stk (8 * manZ q) (scaleZ p - scaleZ q)) (valZ p - valZ q) (scaleZ p)) ∧
    (valZ p ≤ valZ q → Going (stk (8 * manZ q) (scaleZ p - scaleZ q) - 8 * manZ p) (valZ q - valZ p) (scaleZ p)) := by
  obtain ⟨h1, h2, h3⟩ := sum_ready p q h
  exact near_sum (8 * manZ p) _ (valZ p) (valZ q) (scaleZ p) (by omega) h1 h2 h3

theorem sum_same {a b : Nat} (h : sgZ a = sgZ b) : sumZ a b = rdZ (sgZ a) (valZ a + valZ b) := by
  unfold sumZ sumS svalZ
  rw [← h]
  cases sgZ a
  · simp only [if_false, Bool.false_eq_true, Bool.and_self]
    have e1 : ((valZ a : Int) + (valZ b : Int)).natAbs = valZ a + valZ b := by omega
    rw [e1]
    congr 1
    split
    · rfl
    · exact decide_eq_false (by omega)
  · simp only [if_true, Bool.and_self]
    have e1 : (-(valZ a : Int) + -(valZ b : Int)).natAbs = valZ a + valZ b := by omega
    rw [e1]
    congr 1
    split
    · rfl
    · exact decide_eq_true (by omega)
theorem rd_zero : rdZ false 0 = 0 := by
  unfold rdZ wordZ
  rw [rnd_small (by omega), if_neg (by decide)]
  exact Nat.zero_min _
theorem sum_none {a b : Nat} (h : sgZ a ≠ sgZ b) (hv : valZ a = valZ b) : sumZ a b = 0 := by
  have hs : svalZ a + svalZ b = 0 := by
    unfold svalZ
    rw [hv]
    revert h
    cases sgZ a <;> cases sgZ b <;> intro h <;> first | exact absurd rfl h | (simp only [if_true, if_false, Bool.false_eq_true]; omega)
  unfold sumZ sumS
  rw [hs, if_pos rfl]
  have : (sgZ a && sgZ b) = false := by
    revert h
    cases sgZ a <;> cases sgZ b <;> intro h <;> first | rfl | exact absurd rfl h
  rw [this]
  exact rd_zero
theorem sum_more {a b : Nat} (h : sgZ a ≠ sgZ b) (hv : valZ b < valZ a) : sumZ a b = rdZ (sgZ a) (valZ a - valZ b) := by
  unfold sumZ sumS svalZ
  revert h
  cases sgZ a <;> cases sgZ b <;> intro h
  · exact absurd rfl h
  · simp only [if_true, if_false, Bool.false_eq_true]
    have e1 : ((valZ a : Int) + -(valZ b : Int)).natAbs = valZ a - valZ b := by omega
    rw [e1, if_neg (by omega), decide_eq_false (by omega)]
  · simp only [if_true, if_false, Bool.false_eq_true]
    have e1 : (-(valZ a : Int) + (valZ b : Int)).natAbs = valZ a - valZ b := by omega
    rw [e1, if_neg (by omega), decide_eq_true (by omega)]
  · exact absurd rfl h
theorem sum_fewer {a b : Nat} (h : sgZ a ≠ sgZ b) (hv : valZ a < valZ b) : sumZ a b = rdZ (sgZ b) (valZ b - valZ a) := by
  rw [sum_comm]
  exact sum_more (fun e => h e.symm) hv

end Go.Proofs.Ytmgcikjpgbhpgaa
