/- Sevens: numbers as zig lays and reads them, and folded whole numbers. Plain arithmetic; conditions: none. -/
import Derived.Test.YtkblpbpmaoofgaaBits
namespace Go.Proofs.Ytkblpbpmaoofgaa
open Go

/-- a whole number, folded -/
def foldZ (n : Int) : Int := if n < 0 then -2 * n - 1 else 2 * n
/-- and unfolded -/
def backZ (u : Int) : Int := if u % 2 = 1 then -(u / 2) - 1 else u / 2

theorem fold_neg {n : Int} (h : n < 0) : foldZ n = -2 * n - 1 := if_pos h
theorem fold_pos {n : Int} (h : ¬ n < 0) : foldZ n = 2 * n := if_neg h
theorem back_odd {u : Int} (h : u % 2 = 1) : backZ u = -(u / 2) - 1 := if_pos h
theorem back_even {u : Int} (h : ¬ u % 2 = 1) : backZ u = u / 2 := if_neg h

theorem fold_bounds {n : Int} (h0 : -9223372036854775808 ≤ n) (h1 : n ≤ 9223372036854775807) : 0 ≤ foldZ n ∧ foldZ n ≤ 18446744073709551615 := by
  unfold foldZ; split <;> omega
/-- lower and higher digits joined -/
theorem u64_join (a c i : Nat) (ha : a < 128 ^ i) (hc : c < 128) (hi : i ≤ 9) (h9 : i = 9 → c ≤ 1) :
    bits .or .u64 (a : Int) ((c * 128 ^ i : Nat) : Int) = ((a + c * 128 ^ i : Nat) : Int) ∧ c * 128 ^ i < 18446744073709551616 ∧ a + c * 128 ^ i < 18446744073709551616 := by
  have e : (128 : Nat) ^ i = 2 ^ (7 * i) := by rw [Nat.pow_mul]
  have hlt : a + c * 128 ^ i < 18446744073709551616 := by
    rcases Nat.lt_or_ge i 9 with h | h
    · have h1 : (128 : Nat) ^ i ≤ 128 ^ 8 := Nat.pow_le_pow_right (by decide) (by omega)
      have h2 : c * 128 ^ i ≤ 127 * 128 ^ 8 := Nat.mul_le_mul (by omega) h1
      have h3 : 127 * 128 ^ 8 + 128 ^ 8 < 18446744073709551616 := by decide
      omega
    · have h1 : i = 9 := by omega
      subst h1
      have h2 : c * 128 ^ 9 ≤ 1 * 128 ^ 9 := Nat.mul_le_mul (h9 rfl) (Nat.le_refl _)
      have h3 : 1 * 128 ^ 9 + 128 ^ 9 ≤ 18446744073709551616 := by decide
      omega
  refine ⟨?_, by omega, hlt⟩
  rw [u64_or_nat a _ (by omega) (by omega)]
  congr 1
  rw [e] at ha ⊢
  have := Nat.two_pow_add_eq_or_of_lt ha c
  rw [Nat.mul_comm c, Nat.add_comm, this, Nat.or_comm]

/-- how many sevens -/
def zs (u : Nat) : Nat := if u < 128 then 1 else zs (u / 128) + 1
  termination_by u
  decreasing_by omega

theorem zs_small {u : Nat} (h : u < 128) : zs u = 1 := by rw [zs, if_pos h]
theorem zs_big {u : Nat} (h : ¬ u < 128) : zs u = zs (u / 128) + 1 := by rw [zs, if_neg h]

theorem zs_spec (u : Nat) : 0 < zs u ∧ u < 128 ^ zs u ∧ (1 < zs u → 128 ^ (zs u - 1) ≤ u) := by
  refine Nat.strongRecOn u fun u ih => ?_
  by_cases h : u < 128
  · rw [zs_small h]
    exact ⟨by omega, by omega, fun h => by omega⟩
  · obtain ⟨h1, h2, h3⟩ := ih (u / 128) (by omega)
    rw [zs_big h]
    refine ⟨by omega, ?_, fun _ => ?_⟩
    · rw [Nat.pow_succ]; omega
    · rw [Nat.add_sub_cancel]
      by_cases h4 : 1 < zs (u / 128)
      · have h5 := h3 h4
        have e : zs (u / 128) = (zs (u / 128) - 1) + 1 := by omega
        rw [e, Nat.pow_succ]
        omega
      · have e : zs (u / 128) = 1 := by omega
        rw [e]; omega

theorem pow128_mono {a b : Nat} (h : a ≤ b) : (128 : Nat) ^ a ≤ 128 ^ b := Nat.pow_le_pow_right (by decide) h

theorem zs_uniq {k u : Nat} (h1 : k = 0 ∨ 128 ^ k ≤ u) (h2 : u < 128 ^ (k + 1)) : zs u = k + 1 := by
  obtain ⟨a, b, c⟩ := zs_spec u
  rcases Nat.lt_trichotomy (zs u) (k + 1) with h | h | h
  · have hm := pow128_mono (show zs u ≤ k by omega)
    rcases h1 with h1 | h1 <;> omega
  · exact h
  · have h3 := c (by omega)
    have hm := pow128_mono (show k + 1 ≤ zs u - 1 by omega)
    omega

theorem zs_ten {u : Nat} (h : u < 18446744073709551616) : zs u ≤ 10 := by
  obtain ⟨_, _, c⟩ := zs_spec u
  rcases Nat.lt_or_ge 10 (zs u) with h1 | h1
  · have h3 := c (by omega)
    have hm := pow128_mono (show 10 ≤ zs u - 1 by omega)
    have : (18446744073709551616 : Nat) ≤ 128 ^ 10 := by decide
    omega
  · exact h1

/-- what a byte is -/
theorem ofNat_toNat {n : Nat} (h : n < 256) : (UInt8.ofNat n).toNat = n := by simp [UInt8.toNat_ofNat']; omega

/-- the k lowest sevens, each told to have one behind it -/
def hi : Nat → Nat → List UInt8
  | 0, _ => []
  | k + 1, u => hi k u ++ [UInt8.ofNat (u / 128 ^ k % 128 + 128)]

theorem hi_length (k u : Nat) : (hi k u).length = k := by
  induction k with
  | zero => rfl
  | succ k ih => simp [hi, ih]

theorem hi_add (k : Nat) : ∀ v m, hi k (v + 128 ^ k * m) = hi k v := by
  induction k with
  | zero => intro v m; rfl
  | succ k ih =>
    intro v m
    have e : v + 128 ^ (k + 1) * m = v + 128 ^ k * (128 * m) := by rw [Nat.pow_succ, Nat.mul_assoc]
    rw [hi, hi, e, ih, Nat.add_mul_div_left _ _ (Nat.pow_pos (by decide)), Nat.add_mul_mod_self_left]

/-- a number's bytes -/
def zb (u : Nat) : List UInt8 := hi (zs u - 1) u ++ [UInt8.ofNat (u / 128 ^ (zs u - 1))]

theorem zb_length (u : Nat) : (zb u).length = zs u := by
  have := (zs_spec u).1
  simp [zb, hi_length]
  omega

/-- the last seven -/
theorem zb_last (u : Nat) : u / 128 ^ (zs u - 1) < 128 ∧ (1 < zs u → 1 ≤ u / 128 ^ (zs u - 1)) ∧ (u < 18446744073709551616 → zs u = 10 → u / 128 ^ (zs u - 1) ≤ 1) := by
  obtain ⟨a, b, c⟩ := zs_spec u
  have hp : 0 < 128 ^ (zs u - 1) := Nat.pow_pos (by decide)
  refine ⟨?_, fun h => ?_, fun h h10 => ?_⟩
  · rw [Nat.div_lt_iff_lt_mul hp]
    have e : zs u = zs u - 1 + 1 := by omega
    rw [e, Nat.pow_succ] at b
    omega
  · exact (Nat.one_le_div_iff hp).2 (c h)
  · rw [h10]
    have : (128 : Nat) ^ (10 - 1) = 9223372036854775808 := by decide
    rw [this]
    omega

/-- what is read: the number, how many bytes, the error -/
def tk : List UInt8 → Nat → Nat → Nat × Nat × Int
  | [], _, _ => (0, 0, 3)
  | c :: l, i, u =>
    if i = 9 ∧ 1 < c.toNat then (0, 0, 8)
    else if 0 < i ∧ c.toNat = 0 then (0, 0, 4)
    else if c.toNat < 128 then (u + c.toNat * 128 ^ i, i + 1, 0)
    else tk l (i + 1) (u + (c.toNat - 128) * 128 ^ i)

theorem tk_range {c : UInt8} {l : List UInt8} {u : Nat} (h : 1 < c.toNat) : tk (c :: l) 9 u = (0, 0, 8) := by rw [tk, if_pos ⟨rfl, h⟩]
theorem tk_form {c : UInt8} {l : List UInt8} {i u : Nat} (hi : 0 < i) (h : c.toNat = 0) : tk (c :: l) i u = (0, 0, 4) := by
  rw [tk, if_neg (by omega), if_pos ⟨hi, h⟩]
theorem tk_done {c : UInt8} {l : List UInt8} {i u : Nat} (h9 : i = 9 → c.toNat ≤ 1) (h0 : 0 < i → c.toNat ≠ 0) (h : c.toNat < 128) : tk (c :: l) i u = (u + c.toNat * 128 ^ i, i + 1, 0) := by
  rw [tk, if_neg (fun e => by have := h9 e.1; omega), if_neg (fun e => h0 e.1 e.2), if_pos h]
theorem tk_more {c : UInt8} {l : List UInt8} {i u : Nat} (h9 : i ≠ 9) (h : ¬ c.toNat < 128) : tk (c :: l) i u = tk l (i + 1) (u + (c.toNat - 128) * 128 ^ i) := by
  rw [tk, if_neg (fun e => h9 e.1), if_neg (fun e => by omega), if_neg h]

theorem tk_zero_at : ∀ (l : List UInt8) (i v u n : Nat) (e : Int), tk l i v = (u, n, e) → e ≠ 0 → u = 0 := by
  intro l
  induction l with
  | nil => intro i v u n e h _; simp only [tk, Prod.mk.injEq] at h; exact h.1.symm
  | cons c l ih =>
    intro i v u n e h he
    unfold tk at h
    split at h
    · simp only [Prod.mk.injEq] at h; exact h.1.symm
    · split at h
      · simp only [Prod.mk.injEq] at h; exact h.1.symm
      · split at h
        · simp only [Prod.mk.injEq] at h; exact absurd h.2.2.symm he
        · exact ih _ _ _ _ _ h he
theorem tk_zero {l : List UInt8} {u n : Nat} {e : Int} (h : tk l 0 0 = (u, n, e)) (he : e ≠ 0) : u = 0 := tk_zero_at l 0 0 u n e h he

theorem tk_inv : ∀ (l : List UInt8) (i v u n : Nat), v < 128 ^ i → i ≤ 9 → tk l i v = (u, n, 0) → i < n ∧ n ≤ i + l.length ∧ u < 18446744073709551616 ∧ (hi i v ++ l).take n = zb u := by
  intro l
  induction l with
  | nil => intro i v u n _ _ h; simp [tk] at h
  | cons c l ih =>
    intro i v u n hv h9 h
    have hc := c.toNat_lt
    by_cases h1 : i = 9 ∧ 1 < c.toNat
    · obtain ⟨rfl, h1⟩ := h1
      rw [tk_range h1] at h
      simp at h
    · by_cases h2 : 0 < i ∧ c.toNat = 0
      · rw [tk_form h2.1 h2.2] at h
        simp at h
      · by_cases h3 : c.toNat < 128
        · rw [tk_done (by omega) (by omega) h3] at h
          simp only [Prod.mk.injEq, and_true] at h
          obtain ⟨rfl, rfl⟩ := h
          have hj := u64_join v c.toNat i hv h3 h9 (by omega)
          have hp : 0 < 128 ^ i := Nat.pow_pos (by decide)
          have hz : zs (v + c.toNat * 128 ^ i) = i + 1 := by
            refine zs_uniq ?_ ?_
            · rcases Nat.eq_zero_or_pos i with h0 | h0
              · exact Or.inl h0
              · refine Or.inr ?_
                have : 1 * 128 ^ i ≤ c.toNat * 128 ^ i := Nat.mul_le_mul (by omega) (Nat.le_refl _)
                omega
            · rw [Nat.pow_succ]
              have : c.toNat * 128 ^ i ≤ 127 * 128 ^ i := Nat.mul_le_mul (by omega) (Nat.le_refl _)
              omega
          refine ⟨by omega, by simp, hj.2.2, ?_⟩
          rw [zb, hz, Nat.add_sub_cancel]
          have e1 : hi i (v + c.toNat * 128 ^ i) = hi i v := by rw [Nat.mul_comm]; exact hi_add i v _
          have e2 : (v + c.toNat * 128 ^ i) / 128 ^ i = c.toNat := by
            rw [Nat.mul_comm, Nat.add_mul_div_left _ _ hp, Nat.div_eq_of_lt hv, Nat.zero_add]
          rw [e1, e2, List.take_append, hi_length, List.take_of_length_le (by rw [hi_length]; omega), Nat.add_sub_cancel_left]
          simp
        · have hi9 : i ≠ 9 := by omega
          rw [tk_more hi9 h3] at h
          have hp : 0 < 128 ^ i := Nat.pow_pos (by decide)
          have hv' : v + (c.toNat - 128) * 128 ^ i < 128 ^ (i + 1) := by
            rw [Nat.pow_succ]
            have : (c.toNat - 128) * 128 ^ i ≤ 127 * 128 ^ i := Nat.mul_le_mul (by omega) (Nat.le_refl _)
            omega
          obtain ⟨a, b, d, e⟩ := ih (i + 1) _ u n hv' (by omega) h
          refine ⟨by omega, by simp; omega, d, ?_⟩
          rw [← e, hi]
          have e1 : hi i (v + (c.toNat - 128) * 128 ^ i) = hi i v := by rw [Nat.mul_comm]; exact hi_add i v _
          have e2 : (v + (c.toNat - 128) * 128 ^ i) / 128 ^ i = c.toNat - 128 := by
            rw [Nat.mul_comm, Nat.add_mul_div_left _ _ hp, Nat.div_eq_of_lt hv, Nat.zero_add]
          rw [e1, e2, Nat.mod_eq_of_lt (by omega), show c.toNat - 128 + 128 = c.toNat by omega, List.append_assoc]
          simp

end Go.Proofs.Ytkblpbpmaoofgaa
