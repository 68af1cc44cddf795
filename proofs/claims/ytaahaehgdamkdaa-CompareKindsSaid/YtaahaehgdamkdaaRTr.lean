/- Doubles cut towards nought: what the model's cut is, and that the cut double is just the whole part. Plain; conditions: none. -/
import Derived.Test.YtaahaehgdamkdaaRFl
import Derived.Test.YtaahaehgdamkdaaRLaw2
namespace Go.Proofs.Ytaahaehgdamkdaa
open Go Go.RowKit

/-- the whole part, without sign -/
def partZ (u : Nat) : Nat := valZ u / Qz
def truncZ (u : Nat) : Nat := rdZ (sgZ u) (partZ u * Qz)

theorem one_cut (n d : Nat) (s : Bool) : Ieee.Toward.zero.cut s n d = n / 2 ^ d := by
  unfold Ieee.Toward.cut
  simp only [Nat.one_shiftLeft, Bool.toNat_false, Nat.add_zero]
  rcases Nat.lt_or_ge (n.log2 + 2) d with h | h
  · rw [Nat.min_eq_right (by omega)]
    have h1 : n < 2 ^ (n.log2 + 1) := Nat.lt_log2_self
    have h2 : 2 ^ (n.log2 + 1) ≤ 2 ^ (n.log2 + 2) := Nat.pow_le_pow_right (by decide) (by omega)
    have h3 : 2 ^ (n.log2 + 1) ≤ 2 ^ d := Nat.pow_le_pow_right (by decide) (by omega)
    rw [Nat.div_eq_of_lt (by omega), Nat.div_eq_of_lt (by omega)]
  · rw [Nat.min_eq_left h]

theorem cut_part (s : Bool) (m : Nat) (p : Int) (hp : -1074 ≤ p) : Ieee.Toward.zero.cut s (m <<< p.toNat) (-p).toNat = m * 2 ^ (p + 1074).toNat / Qz := by
  rw [one_cut, Nat.shiftLeft_eq]
  unfold Qz
  rcases Int.lt_or_le p 0 with h | h
  · obtain ⟨d, hd⟩ : ∃ d : Nat, p = -(d : Int) := ⟨(-p).toNat, by omega⟩
    subst hd
    have hd : d ≤ 1074 := by omega
    have hq : 2 ^ q74 = 2 ^ d * 2 ^ (1074 - d) := by rw [← Nat.pow_add]; exact congrArg (fun k => 2 ^ k) (by unfold q74; omega)
    rw [show (-(d : Int)).toNat = 0 by omega, show (- -(d : Int)).toNat = d by omega, show (-(d : Int) + 1074).toNat = 1074 - d by omega, Nat.pow_zero, Nat.mul_one, hq, Nat.mul_div_mul_right _ _ (Nat.pow_pos (by decide))]
  · obtain ⟨d, hd⟩ : ∃ d : Nat, p = (d : Int) := ⟨p.toNat, by omega⟩
    subst hd
    have hq : 2 ^ (d + q74) = 2 ^ d * 2 ^ q74 := Nat.pow_add ..
    rw [show ((d : Int)).toNat = d by omega, show (-(d : Int)).toNat = 0 by omega, show ((d : Int) + 1074).toNat = d + q74 by unfold q74; omega, hq, ← Nat.mul_assoc, Nat.mul_div_cancel _ (Nat.pow_pos (by decide)), Nat.pow_zero, Nat.div_one]

theorem integral_fin {u : Nat} (hu : u < 18446744073709551616) (h : rungZ u < 9218868437227405312) : (Ieee.double.read u).integral .zero = .number (sgZ u) (partZ u) 0 := by
  obtain ⟨m, p, r1, hp, hv⟩ := read_num hu h
  rw [r1]
  show Ieee.Datum.number _ _ _ = _
  rw [cut_part _ _ _ hp, hv]
  rfl

theorem toInt_fin {u : Nat} (hu : u < 18446744073709551616) (h : rungZ u < 9218868437227405312) : (FloatKind.f64.decode u).toInt .zero = some (signI (sgZ u) (partZ u)) := by
  show (Ieee.double.read u).toInt .zero = _
  unfold Ieee.Datum.toInt
  rw [integral_fin hu h]
  show some (Ieee.signed _ _ 0) = _
  unfold Ieee.signed signI
  rw [Nat.shiftLeft_zero]

theorem int_of_fin {u : Nat} (hu : u < 18446744073709551616) (h : rungZ u < 9218868437227405312) (hk : partZ u ≤ 4611686018427387904) : floatToIntVal .f64 u .i64 = some (signI (sgZ u) (partZ u)) := by
  unfold floatToIntVal
  rw [toInt_fin hu h]
  show (if (-9223372036854775808 : Int) ≤ _ ∧ _ ≤ (9223372036854775807 : Int) then _ else _) = _
  rw [if_pos]
  unfold signI
  split <;> omega

theorem trunc_word {u : Nat} (hu : u < 18446744073709551616) (h : rungZ u < 9218868437227405312) : FloatKind.f64.encode ((FloatKind.f64.decode u).integral .zero) = truncZ u := by
  show Ieee.double.write ((Ieee.double.read u).integral .zero) = _
  rw [integral_fin hu h]
  show Ieee.double.nearest _ _ 0 = _
  rw [nearest_rd _ _ _ (by decide), show ((0 : Int) + 1074).toNat = q74 from rfl]
  unfold truncZ Qz
  rfl

/-- the cut double's worth is the whole part, to the bit -/
theorem trunc_facts {u : Nat} (h : rungZ u < 9218868437227405312) :
    truncZ u < 18446744073709551616 ∧ sgZ (truncZ u) = sgZ u ∧ rungZ (truncZ u) < 9218868437227405312 ∧ valZ (truncZ u) = partZ u * Qz := by
  obtain ⟨a, b, c⟩ := rung_rd (sgZ u) (partZ u * Qz)
  have hle : partZ u * Qz ≤ valZ u := by unfold partZ; exact Nat.div_mul_le_self _ _
  have hr : rnd (partZ u * Qz) ≤ rungZ u := by
    have := rnd_mono hle
    unfold valZ at this
    rwa [rnd_worth] at this
  have ha : rungZ (truncZ u) = rnd (partZ u * Qz) := by unfold truncZ; rw [a]; omega
  refine ⟨c, b, by omega, ?_⟩
  have hw : worthR (rnd (partZ u * Qz)) = partZ u * Qz := by
    have hv := val_parts u
    have hm := man_lt u
    rcases Nat.lt_or_ge (scaleZ u) 1075 with h1 | h1
    · refine worth_rnd (int_exact ?_)
      unfold partZ
      rw [hv, Q_split (scale_pos u) (by omega), Nat.mul_comm (manZ u), Nat.mul_div_mul_left _ _ (Nat.pow_pos (by decide))]
      have := Nat.div_le_self (manZ u) (2 ^ (1075 - scaleZ u))
      omega
    · have e : partZ u * Qz = valZ u := by
        unfold partZ
        have hd : valZ u = manZ u * 2 ^ (scaleZ u - 1075) * Qz := by rw [hv, Q_more h1, Nat.mul_comm Qz, ← Nat.mul_assoc]
        rw [hd, Nat.mul_div_cancel _ Q_pos]
      rw [e]
      unfold valZ
      rw [rnd_worth]
  unfold valZ
  rw [ha, hw]

/-- a number within the bounds -/
def nearZ (u : Nat) : Bool := decide (rungZ u ≤ 4886405595696988160)
theorem worth_bound_at (X : Nat) (h : 4503599627370496 * 2 ^ q84 = 4611686018427387904 * X) : worthR 4886405595696988160 = 4611686018427387904 * X := by
  rw [worth_high (by decide), ← h, show (4886405595696988160 / 4503599627370496 - 1 : Nat) = q84 from rfl, show (4503599627370496 + 4886405595696988160 % 4503599627370496 : Nat) = 4503599627370496 from rfl]
theorem worth_bound : worthR 4886405595696988160 = 4611686018427387904 * Qz :=
  worth_bound_at Qz (pow_swap' 4503599627370496 4611686018427387904 52 q84 62 q74 (2 ^ q84) rfl rfl rfl rfl |>.trans (by rw [Q_is]))
theorem near_val {u : Nat} : rungZ u ≤ 4886405595696988160 ↔ valZ u ≤ 4611686018427387904 * Qz := by
  have h := @worth_lt_iff 4886405595696988160 (rungZ u)
  rw [worth_bound] at h
  unfold valZ
  omega
theorem part_near {u : Nat} (h : rungZ u ≤ 4886405595696988160) : partZ u ≤ 4611686018427387904 := by
  unfold partZ
  have := near_val.1 h
  exact Nat.div_le_of_le_mul (by rw [Nat.mul_comm]; exact this)

theorem low_parts : kindZ 14109777632551763968 = 3 ∧ srkZ 14109777632551763968 = -4886405595696988160 := by decide
theorem high_parts : kindZ 4886405595696988160 = 3 ∧ srkZ 4886405595696988160 = 4886405595696988160 := by decide
theorem near_bool {u : Nat} : ((!(decide (kindZ u = 5)) && (decide ((-4886405595696988160 : Int) ≤ srkZ u))) && (!(decide (kindZ u = 5)) && decide (srkZ u ≤ 4886405595696988160))) = nearZ u := by
  have h1 := @kind_nan u
  have h2 := rung_lt u
  unfold nearZ srkZ
  rw [Bool.eq_iff_iff]
  simp only [Bool.and_eq_true, Bool.not_eq_true', decide_eq_true_iff, decide_eq_false_iff_not]
  split <;> omega

/-- beyond the bounds the sign alone tells -/
theorem versus_far {n : Int} {u : Nat} (h5 : kindZ u ≠ 5) (h0 : -4611686018427387904 ≤ n) (h1 : n ≤ 4611686018427387904) (h : 4886405595696988160 < rungZ u) :
    versusZ n u = (if sgZ u then 1 else -1, true) := by
  have hb : ¬ (kindZ u = 5 ∨ n < -4611686018427387904 ∨ 4611686018427387904 < n) := by omega
  by_cases h4 : kindZ u = 4
  · exact versus_inf hb h4
  · rw [versus_fin hb h4]
    have hv : 4611686018427387904 * Qz < valZ u := by have := @near_val u; omega
    have e1 : n * (Qz : Int) ≤ 4611686018427387904 * (Qz : Int) := Int.mul_le_mul_of_nonneg_right h1 (by omega)
    have e2 : -4611686018427387904 * (Qz : Int) ≤ n * (Qz : Int) := Int.mul_le_mul_of_nonneg_right h0 (by omega)
    unfold svalZ
    cases sgZ u
    · rw [if_neg (by decide), if_neg (by decide), cmp_lt (by omega)]
    · rw [if_pos rfl, if_pos rfl, cmp_gt (by omega)]

theorem cmp_srk (a b : Nat) : cmpI (srkZ a) (srkZ b) = cmpI (svalZ a) (svalZ b) := by
  have h1 := sval_lt_iff a b
  have h2 := sval_eq_iff a b
  unfold cmpI
  simp only [h1, h2]

/-- within, the whole parts are held against one another first, and then what stands behind -/
theorem versus_near {n : Int} {u : Nat} (h0 : -4611686018427387904 ≤ n) (h1 : n ≤ 4611686018427387904) (h : rungZ u ≤ 4886405595696988160) :
    versusZ n u = (if cmpI n (signI (sgZ u) (partZ u)) ≠ 0 then cmpI n (signI (sgZ u) (partZ u)) else cmpI (srkZ (truncZ u)) (srkZ u), true) := by
  have k2 := @kind_fin u
  obtain ⟨a, b, c, d⟩ := trunc_facts (u := u) (by omega)
  rw [versus_fin (by omega) (by omega), cmp_srk]
  refine congrArg (fun x => (x, true)) ?_
  have hQ := Q_pos
  have hdm := Nat.div_add_mod (valZ u) Qz
  have hml := Nat.mod_lt (valZ u) Q_pos
  have hp : Qz * (valZ u / Qz) = partZ u * Qz := by unfold partZ; rw [Nat.mul_comm]
  rw [hp] at hdm
  unfold svalZ signI
  rw [b, d]
  generalize partZ u = k at *
  generalize valZ u % Qz = r at *
  have hc : ((k * Qz : Nat) : Int) = (k : Int) * (Qz : Int) := by simp
  cases sgZ u
  · simp only [Bool.false_eq_true, if_false]
    rcases Int.lt_trichotomy n k with h2 | h2 | h2
    · rw [cmp_lt h2, if_pos (by decide)]
      have : n * (Qz : Int) < (k : Int) * (Qz : Int) := Int.mul_lt_mul_of_pos_right h2 (by omega)
      exact cmp_lt (by omega)
    · rw [cmp_eq h2, if_neg (by decide), h2, hc]
    · rw [cmp_gt h2, if_pos (by decide)]
      have : ((k : Int) + 1) * (Qz : Int) ≤ n * (Qz : Int) := Int.mul_le_mul_of_nonneg_right (by omega) (by omega)
      rw [Int.add_mul, Int.one_mul] at this
      exact cmp_gt (by omega)
  · simp only [if_true]
    have hc2 : -(k : Int) * (Qz : Int) = -((k : Int) * (Qz : Int)) := Int.neg_mul ..
    rcases Int.lt_trichotomy n (-(k : Int)) with h2 | h2 | h2
    · rw [cmp_lt h2, if_pos (by decide)]
      have : (n + 1) * (Qz : Int) ≤ -(k : Int) * (Qz : Int) := Int.mul_le_mul_of_nonneg_right (by omega) (by omega)
      rw [Int.add_mul, Int.one_mul] at this
      exact cmp_lt (by omega)
    · rw [cmp_eq h2, if_neg (by decide), h2, hc, hc2]
    · rw [cmp_gt h2, if_pos (by decide)]
      have : -(k : Int) * (Qz : Int) < n * (Qz : Int) := Int.mul_lt_mul_of_pos_right h2 (by omega)
      exact cmp_gt (by omega)

end Go.Proofs.Ytaahaehgdamkdaa
