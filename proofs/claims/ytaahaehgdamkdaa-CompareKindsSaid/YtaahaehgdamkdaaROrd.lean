/- Doubles: their order, the model's and the ranks', and what whole numbers are as doubles. Plain; conditions: none. -/
import Derived.Test.YtaahaehgdamkdaaRSpec
namespace Go.Proofs.Ytaahaehgdamkdaa
open Go

theorem rung_bound (u : Nat) : rungZ u < 9223372036854775808 := Nat.mod_lt _ (by decide)

/-- worth and rung stand alike -/
theorem sval_lt_iff (a b : Nat) : svalZ a < svalZ b ↔ srkZ a < srkZ b := by
  unfold svalZ srkZ valZ
  have h1 := @worth_lt_iff (rungZ a) (rungZ b)
  have h2 := @worth_lt_iff (rungZ b) (rungZ a)
  have za : worthR (rungZ a) = 0 ↔ rungZ a = 0 := by
    constructor
    · intro h
      rcases Nat.eq_zero_or_pos (rungZ a) with h0 | h0
      · exact h0
      · have := worth_mono h0; omega
    · intro h; rw [h]; decide
  have zb : worthR (rungZ b) = 0 ↔ rungZ b = 0 := by
    constructor
    · intro h
      rcases Nat.eq_zero_or_pos (rungZ b) with h0 | h0
      · exact h0
      · have := worth_mono h0; omega
    · intro h; rw [h]; decide
  generalize worthR (rungZ a) = A at *
  generalize worthR (rungZ b) = B at *
  cases sgZ a <;> cases sgZ b <;> simp only [if_true, if_false, Bool.false_eq_true] <;> omega
theorem sval_eq_iff (a b : Nat) : svalZ a = svalZ b ↔ srkZ a = srkZ b := by
  have h1 := sval_lt_iff a b
  have h2 := sval_lt_iff b a
  omega

theorem compare_int (x y : Int) : compare x y = if x < y then .lt else if x = y then .eq else .gt := by
  show compareOfLessAndEq x y = _
  unfold compareOfLessAndEq
  rfl
theorem compare_scale {x y k : Int} (hk : 0 < k) : compare (x * k) (y * k) = compare x y := by
  rw [compare_int, compare_int]
  have e1 : x * k < y * k ↔ x < y := ⟨fun h => Int.lt_of_mul_lt_mul_right h (Int.le_of_lt hk), fun h => Int.mul_lt_mul_of_pos_right h hk⟩
  have e2 : x * k = y * k ↔ x = y := ⟨fun h => Int.eq_of_mul_eq_mul_right (by omega) h, fun h => by rw [h]⟩
  simp only [e1, e2]

theorem order_model {a b : Nat} (ha : a < 18446744073709551616) (hb : b < 18446744073709551616) :
    Ieee.double.order a b = if kindZ a = 5 ∨ kindZ b = 5 then none else some (compare (srkZ a) (srkZ b)) := by
  have kna := @kind_nan a
  have knb := @kind_nan b
  have la := rung_bound a
  have lb := rung_bound b
  unfold Ieee.Format.order
  rcases Nat.lt_trichotomy (rungZ a) 9218868437227405312 with h1 | h1 | h1
  · obtain ⟨m, p, r1, hp, hv⟩ := read_num ha h1
    rw [r1]
    rcases Nat.lt_trichotomy (rungZ b) 9218868437227405312 with h2 | h2 | h2
    · obtain ⟨n, q, r2, hq, hw⟩ := read_num hb h2
      rw [r2, if_neg (by omega)]
      simp only [Ieee.Datum.order, Option.some.injEq]
      have hmin : -1074 ≤ min p q := by omega
      have s1 := signed_val (sgZ a) m p (min p q) hmin (by omega)
      have s2 := signed_val (sgZ b) n q (min p q) hmin (by omega)
      rw [hv] at s1
      rw [hw] at s2
      have hK : (0 : Int) < 2 ^ (min p q + 1074).toNat := Int.pow_pos (by omega)
      rw [← compare_scale hK, s1, s2]
      show compare (svalZ a) (svalZ b) = _
      rw [compare_int, compare_int]
      simp only [sval_lt_iff, sval_eq_iff]
    · rw [read_inf hb h2, if_neg (by omega)]
      simp only [Ieee.Datum.order, Option.some.injEq]
      unfold srkZ
      rw [h2, compare_int]
      cases sgZ b <;> cases sgZ a <;> simp only [if_true, if_false, Bool.false_eq_true]
      · rw [if_pos (by omega)]
      · rw [if_pos (by omega)]
      · rw [if_neg (by omega), if_neg (by omega)]
      · rw [if_neg (by omega), if_neg (by omega)]
    · obtain ⟨s, f, r2⟩ := read_nan h2
      rw [r2, if_pos (by omega)]
      rfl
  · rw [read_inf ha h1]
    rcases Nat.lt_trichotomy (rungZ b) 9218868437227405312 with h2 | h2 | h2
    · obtain ⟨n, q, r2, hq, hw⟩ := read_num hb h2
      rw [r2, if_neg (by omega)]
      simp only [Ieee.Datum.order, Option.some.injEq]
      unfold srkZ
      rw [h1, compare_int]
      cases sgZ a <;> cases sgZ b <;> simp only [if_true, if_false, Bool.false_eq_true]
      · rw [if_neg (by omega), if_neg (by omega)]
      · rw [if_neg (by omega), if_neg (by omega)]
      · rw [if_pos (by omega)]
      · rw [if_pos (by omega)]
    · rw [read_inf hb h2, if_neg (by omega)]
      simp only [Ieee.Datum.order, Option.some.injEq]
      unfold srkZ
      rw [h1, h2]
      cases sgZ a <;> cases sgZ b <;> decide
    · obtain ⟨s, f, r2⟩ := read_nan h2
      rw [r2, if_pos (by omega)]
      rfl
  · obtain ⟨s, f, r1⟩ := read_nan h1
    rw [r1, if_pos (by omega)]
    rfl

/-- a name for the number, so that no power of it is worked out -/
def q74 : Nat := 1074
/-- what a whole number is as a double -/
def intZ (n : Int) : Nat := rdZ (decide (n < 0)) (n.natAbs * 2 ^ q74)
theorem int_model (n : Int) : FloatKind.f64.nearest n = intZ n := by
  unfold FloatKind.nearest FloatKind.encode
  show Ieee.double.nearest _ _ _ = _
  rw [nearest_rd _ _ _ (by omega), show ((0 : Int) + 1074).toNat = q74 from rfl]
  unfold intZ
  rfl

/-! ### ranks, signs -/
theorem rank_nan {u : Nat} (h : kindZ u = 5) : rankZ u = 18444492273895866368 := by
  unfold rankZ cleanZ
  rw [if_pos h]
  decide
/-! ### with the other sign -/
theorem neg_nan {u : Nat} (h : kindZ u = 5) : negZ u = nanC := if_pos h
theorem neg_num {u : Nat} (hu : u < 18446744073709551616) (h : kindZ u ≠ 5) : negZ u < 18446744073709551616 ∧ rungZ (negZ u) = rungZ u ∧ sgZ (negZ u) = !sgZ u := by
  unfold negZ
  rw [if_neg h]
  refine ⟨by omega, by unfold rungZ; omega, ?_⟩
  unfold sgZ
  by_cases h1 : 9223372036854775808 ≤ u
  · rw [decide_eq_true h1, decide_eq_false (by omega)]; rfl
  · rw [decide_eq_false h1, decide_eq_true (by omega)]; rfl
theorem kind_of_rung {a b : Nat} (h : rungZ a = rungZ b) : kindZ a = kindZ b := by
  have e1 : exZ a = exZ b ∧ frZ a = frZ b := by
    have := @rung_parts a; have := @rung_parts b; have := fr_lt a; have := fr_lt b
    omega
  unfold kindZ
  rw [e1.1, e1.2]
theorem neg_kind {u : Nat} (hu : u < 18446744073709551616) : kindZ (negZ u) = kindZ u := by
  by_cases h : kindZ u = 5
  · rw [neg_nan h, h]; decide
  · exact kind_of_rung (neg_num hu h).2.1
theorem neg_lt {u : Nat} (hu : u < 18446744073709551616) : negZ u < 18446744073709551616 := by
  by_cases h : kindZ u = 5
  · rw [neg_nan h]; decide
  · exact (neg_num hu h).1

end Go.Proofs.Ytaahaehgdamkdaa
