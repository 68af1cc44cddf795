/- Doubles: what the document tells of them, and that the model's sums, order and roundings are these. Plain; conditions: none. -/
import Derived.Test.YtaahaehgdamkdaaRDig
namespace Go.Proofs.Ytaahaehgdamkdaa
open Go

def exZ (u : Nat) : Nat := u / 4503599627370496 % 2048
def frZ (u : Nat) : Nat := u % 4503599627370496
def rungZ (u : Nat) : Nat := u % 9223372036854775808
def sgZ (u : Nat) : Bool := decide (9223372036854775808 ≤ u)
def kindZ (u : Nat) : Nat := if exZ u = 2047 ∧ frZ u ≠ 0 then 5 else if exZ u = 2047 then 4 else if exZ u ≠ 0 then 3 else if frZ u ≠ 0 then 2 else 1

theorem rung_parts {u : Nat} : rungZ u = exZ u * 4503599627370496 + frZ u := by unfold rungZ exZ frZ; omega
theorem fr_lt (u : Nat) : frZ u < 4503599627370496 := Nat.mod_lt _ (by decide)
theorem ex_lt (u : Nat) : exZ u < 2048 := Nat.mod_lt _ (by decide)
theorem rung_lt (u : Nat) : rungZ u < 9223372036854775808 := Nat.mod_lt _ (by decide)

theorem kind_nan {u : Nat} : kindZ u = 5 ↔ 9218868437227405312 < rungZ u := by
  have := fr_lt u; have := ex_lt u
  rw [rung_parts]; unfold kindZ
  repeat' split
  all_goals omega
theorem kind_inf {u : Nat} : kindZ u = 4 ↔ rungZ u = 9218868437227405312 := by
  have := fr_lt u; have := ex_lt u
  rw [rung_parts]; unfold kindZ
  repeat' split
  all_goals omega
theorem kind_fin {u : Nat} : kindZ u ≠ 5 ∧ kindZ u ≠ 4 ↔ rungZ u < 9218868437227405312 := by
  have h1 := @kind_nan u; have h2 := @kind_inf u
  omega
theorem kind_zero {u : Nat} : kindZ u = 1 ↔ rungZ u = 0 := by
  have := fr_lt u; have := ex_lt u
  rw [rung_parts]; unfold kindZ
  repeat' split
  all_goals omega

def nanC : Nat := 9221120237041090560
def cleanZ (u : Nat) : Nat := if kindZ u = 5 then nanC else u
def rankZ (u : Nat) : Nat := if 9223372036854775808 ≤ cleanZ u then 18446744073709551615 - cleanZ u else cleanZ u + 9223372036854775808
def negZ (u : Nat) : Nat := if kindZ u = 5 then nanC else (u + 9223372036854775808) % 18446744073709551616

/-- a rung with its sign -/
def srkZ (u : Nat) : Int := if sgZ u then -(rungZ u : Int) else (rungZ u : Int)
def equalZ (a b : Nat) : Bool := decide (kindZ a ≠ 5 ∧ kindZ b ≠ 5 ∧ srkZ a = srkZ b)
def lessZ (a b : Nat) : Bool := decide (kindZ a ≠ 5 ∧ kindZ b ≠ 5 ∧ srkZ a < srkZ b)

def wordZ (s : Bool) (r : Nat) : Nat := if s then 9223372036854775808 + r else r
def rdZ (s : Bool) (N : Nat) : Nat := wordZ s (min (rnd N) 9218868437227405312)
def valZ (u : Nat) : Nat := worthR (rungZ u)
def svalZ (u : Nat) : Int := if sgZ u then -(valZ u : Int) else (valZ u : Int)
/-- a sum's sign: of none that is left, of both -/
def sumS (a b : Nat) : Bool := if svalZ a + svalZ b = 0 then sgZ a && sgZ b else decide (svalZ a + svalZ b < 0)
def sumZ (a b : Nat) : Nat := rdZ (sumS a b) (svalZ a + svalZ b).natAbs
def nanSum (a b : Nat) : Prop := kindZ a = 5 ∨ kindZ b = 5 ∨ (kindZ a = 4 ∧ kindZ b = 4 ∧ a ≠ b)
instance (a b : Nat) : Decidable (nanSum a b) := by unfold nanSum; infer_instance
def addZ (a b : Nat) : Nat := if nanSum a b then nanC else if kindZ a = 4 then a else if kindZ b = 4 then b else sumZ a b

theorem word_of (u : Nat) (hu : u < 18446744073709551616) : wordZ (sgZ u) (rungZ u) = u := by
  unfold wordZ sgZ rungZ
  by_cases h : 9223372036854775808 ≤ u
  · rw [decide_eq_true h, if_pos rfl]; omega
  · rw [decide_eq_false h, if_neg (by decide)]; omega

/-! ### the model's words -/
theorem dbl_binade : Ieee.double.binade = 4503599627370496 := by decide
theorem dbl_sign : Ieee.double.signWeight = 9223372036854775808 := by decide
theorem dbl_inf : Ieee.double.infRung = 9218868437227405312 := by decide
theorem dbl_least : Ieee.double.leastPlace = -1074 := by decide
theorem dbl_word (s : Bool) (r : Nat) : Ieee.double.word s r = wordZ s r := by unfold Ieee.Format.word wordZ; rw [dbl_sign]

theorem read_sign (u : Nat) (hu : u < 18446744073709551616) : (u / 9223372036854775808 % 2 == 1) = sgZ u := by
  unfold sgZ
  rw [Bool.eq_iff_iff, beq_iff_eq, decide_eq_true_iff]
  omega

theorem read_num {u : Nat} (hu : u < 18446744073709551616) (h : rungZ u < 9218868437227405312) :
    ∃ (m : Nat) (p : Int), Ieee.double.read u = .number (sgZ u) m p ∧ -1074 ≤ p ∧ m * 2 ^ (p + 1074).toNat = valZ u := by
  unfold Ieee.Format.read
  simp only [dbl_binade, dbl_sign, dbl_inf, dbl_least, read_sign u hu]
  have e : u % 9223372036854775808 = rungZ u := rfl
  rw [e]
  by_cases h1 : rungZ u < 4503599627370496
  · rw [if_pos h1]
    refine ⟨_, _, rfl, by omega, ?_⟩
    unfold valZ
    rw [worth_low (by omega)]
    simp
  · rw [if_neg h1, if_pos h]
    refine ⟨_, _, rfl, by omega, ?_⟩
    unfold valZ
    rw [worth_high (by omega)]
    congr 2
    omega
theorem read_inf {u : Nat} (hu : u < 18446744073709551616) (h : rungZ u = 9218868437227405312) : Ieee.double.read u = .infinity (sgZ u) := by
  unfold Ieee.Format.read
  simp only [dbl_binade, dbl_sign, dbl_inf, dbl_least, read_sign u hu]
  have e : u % 9223372036854775808 = rungZ u := rfl
  rw [e, if_neg (by omega), if_neg (by omega), if_pos h]
theorem read_nan {u : Nat} (h : 9218868437227405312 < rungZ u) : ∃ s f, Ieee.double.read u = .nan s f := by
  unfold Ieee.Format.read
  simp only [dbl_binade, dbl_sign, dbl_inf, dbl_least]
  have e : u % 9223372036854775808 = rungZ u := rfl
  rw [e, if_neg (by omega), if_neg (by omega), if_neg (by omega)]
  exact ⟨_, _, rfl⟩

theorem cut_zero (s : Bool) (n : Nat) : Ieee.Toward.even.cut s n 0 = n := by
  unfold Ieee.Toward.cut
  simp [Nat.mod_one]

theorem cut_rhe (s : Bool) (n k : Nat) (h : k ≤ n.log2 + 2) : Ieee.Toward.even.cut s n k = rhe n k := by
  unfold Ieee.Toward.cut rhe
  simp only [Nat.min_eq_left h, Nat.one_shiftLeft]
  congr 1
  by_cases h1 : 2 ^ k < 2 * (n % 2 ^ k) ∨ (2 ^ k = 2 * (n % 2 ^ k) ∧ n / 2 ^ k % 2 = 1)
  · rw [if_pos h1]
    have : (decide (2 ^ k < 2 * (n % 2 ^ k)) || (2 ^ k == 2 * (n % 2 ^ k)) && (n / 2 ^ k % 2 == 1)) = true := by simpa using h1
    rw [this]; rfl
  · rw [if_neg h1]
    have : (decide (2 ^ k < 2 * (n % 2 ^ k)) || (2 ^ k == 2 * (n % 2 ^ k)) && (n / 2 ^ k % 2 == 1)) = false := by
      rw [Bool.eq_false_iff]
      intro h2
      exact h1 (by simpa using h2)
    rw [this]; rfl

theorem rhe_scale (n j k : Nat) : rhe (n * 2 ^ j) (k + j) = rhe n k := by
  have hp : 0 < 2 ^ j := Nat.pow_pos (by decide)
  have e1 : n * 2 ^ j / 2 ^ (k + j) = n / 2 ^ k := by rw [Nat.pow_add, Nat.mul_div_mul_right _ _ hp]
  have e2 : n * 2 ^ j % 2 ^ (k + j) = n % 2 ^ k * 2 ^ j := by rw [Nat.pow_add, Nat.mul_mod_mul_right]
  unfold rhe
  rw [e1, e2, Nat.pow_add]
  congr 1
  have e3 : 2 ^ k * 2 ^ j < 2 * (n % 2 ^ k * 2 ^ j) ↔ 2 ^ k < 2 * (n % 2 ^ k) := by
    rw [← Nat.mul_assoc]; exact Nat.mul_lt_mul_right hp
  have e4 : 2 ^ k * 2 ^ j = 2 * (n % 2 ^ k * 2 ^ j) ↔ 2 ^ k = 2 * (n % 2 ^ k) := by
    rw [← Nat.mul_assoc]; exact Nat.mul_left_inj (by omega)
  simp only [e3, e4]

theorem log2_shift {m : Nat} (d : Nat) (h : m ≠ 0) : (m * 2 ^ d).log2 = m.log2 + d := by
  have hm : m * 2 ^ d ≠ 0 := Nat.mul_ne_zero h (Nat.pos_iff_ne_zero.1 (Nat.pow_pos (by decide)))
  have hp : 0 < 2 ^ d := Nat.pow_pos (by decide)
  refine (Nat.log2_eq_iff hm).2 ⟨?_, ?_⟩
  · rw [Nat.pow_add]; exact Nat.mul_le_mul (Nat.log2_self_le h) (Nat.le_refl _)
  · rw [show m.log2 + d + 1 = (m.log2 + 1) + d by omega, Nat.pow_add]
    exact (Nat.mul_lt_mul_right hp).2 Nat.lt_log2_self

theorem nearest_rd (s : Bool) (m : Nat) (p : Int) (hp : -1074 ≤ p) : Ieee.double.nearest s m p = rdZ s (m * 2 ^ (p + 1074).toNat) := by
  unfold Ieee.Format.nearest
  by_cases hm : m = 0
  · subst hm
    rw [if_pos rfl, dbl_word, Nat.zero_mul]
    unfold rdZ
    rw [rnd_small (by omega), Nat.zero_min]
  · rw [if_neg hm]
    simp only [dbl_least, dbl_binade, dbl_inf, dbl_word]
    unfold rdZ
    refine congrArg (fun x => wordZ s (min x 9218868437227405312)) ?_
    obtain ⟨d, hd⟩ : ∃ d : Nat, p = (d : Int) - 1074 := ⟨(p + 1074).toNat, by omega⟩
    subst hd
    rw [show ((d : Int) - 1074 + 1074).toNat = d by omega]
    have hl := log2_shift d hm
    have hf : (Ieee.double.fractionBits : Int) = 52 := by decide
    rw [hf]
    have hdn : dn (m * 2 ^ d) = m.log2 + d - 52 := by unfold dn; rw [hl]
    unfold rnd
    rw [hdn]
    obtain ⟨k, hk⟩ : ∃ k, k = m.log2 + d - 52 := ⟨_, rfl⟩
    rw [← hk]
    have hmax : max ((d : Int) - 1074 + (m.log2 : Int) - 52) (-1074) = (k : Int) - 1074 := by omega
    rw [hmax]
    rw [show ((k : Int) - 1074 - -1074).toNat = k by omega]
    congr 1
    rcases Nat.lt_or_ge d k with h1 | h1
    · rw [show ((d : Int) - 1074 - ((k : Int) - 1074)).toNat = 0 by omega, show ((k : Int) - 1074 - ((d : Int) - 1074)).toNat = k - d by omega, Nat.shiftLeft_zero, cut_rhe _ _ _ (by omega)]
      have := rhe_scale m d (k - d)
      rw [show k - d + d = k by omega] at this
      exact this.symm
    · rw [show ((d : Int) - 1074 - ((k : Int) - 1074)).toNat = d - k by omega, show ((k : Int) - 1074 - ((d : Int) - 1074)).toNat = 0 by omega, cut_zero, Nat.shiftLeft_eq]
      have hp : 0 < 2 ^ k := Nat.pow_pos (by decide)
      have e : m * 2 ^ d = m * 2 ^ (d - k) * 2 ^ k := by rw [Nat.mul_assoc, ← Nat.pow_add, show d - k + k = d by omega]
      rw [e, rhe_exact (Nat.mul_mod_left _ _), Nat.mul_div_cancel _ hp]

theorem signed_val (s : Bool) (m : Nat) (p base : Int) (hb : -1074 ≤ base) (hp : base ≤ p) :
    Ieee.signed s m (p - base).toNat * 2 ^ (base + 1074).toNat = if s then -((m * 2 ^ (p + 1074).toNat : Nat) : Int) else ((m * 2 ^ (p + 1074).toNat : Nat) : Int) := by
  have e : (m <<< (p - base).toNat) * 2 ^ (base + 1074).toNat = m * 2 ^ (p + 1074).toNat := by
    rw [Nat.shiftLeft_eq, Nat.mul_assoc, ← Nat.pow_add]
    congr 2
    omega
  have e2 : ((m <<< (p - base).toNat : Nat) : Int) * 2 ^ (base + 1074).toNat = ((m * 2 ^ (p + 1074).toNat : Nat) : Int) := by
    rw [← e]; simp
  unfold Ieee.signed
  cases s
  · simpa using e2
  · simp only [if_true]
    rw [Int.neg_mul, e2]

theorem add_model {a b : Nat} (ha : a < 18446744073709551616) (hb : b < 18446744073709551616) : Ieee.double.add a b = if nanSum a b then none else some (addZ a b) := by
  have kna := @kind_nan a; have kia := @kind_inf a; have kfa := @kind_fin a
  have knb := @kind_nan b; have kib := @kind_inf b; have kfb := @kind_fin b
  unfold Ieee.Format.add addZ
  rcases Nat.lt_trichotomy (rungZ a) 9218868437227405312 with h1 | h1 | h1
  · obtain ⟨m, p, r1, hp, hv⟩ := read_num ha h1
    rw [r1]
    rcases Nat.lt_trichotomy (rungZ b) 9218868437227405312 with h2 | h2 | h2
    · obtain ⟨n, q, r2, hq, hw⟩ := read_num hb h2
      have hn : ¬ nanSum a b := by unfold nanSum; omega
      rw [r2, if_neg hn, if_neg hn, if_neg (by omega), if_neg (by omega)]
      simp only [Ieee.Datum.sum, Option.map_some, Option.some.injEq]
      show Ieee.double.write _ = _
      unfold Ieee.Format.write
      simp only
      have hmin : -1074 ≤ min p q := by omega
      rw [nearest_rd _ _ _ hmin]
      have s1 := signed_val (sgZ a) m p (min p q) hmin (by omega)
      have s2 := signed_val (sgZ b) n q (min p q) hmin (by omega)
      rw [hv] at s1
      rw [hw] at s2
      have hK : (0 : Int) < 2 ^ (min p q + 1074).toNat := Int.pow_pos (by omega)
      have ht : (Ieee.signed (sgZ a) m (p - min p q).toNat + Ieee.signed (sgZ b) n (q - min p q).toNat) * 2 ^ (min p q + 1074).toNat = svalZ a + svalZ b := by
        rw [Int.add_mul, s1, s2]; rfl
      generalize Ieee.signed (sgZ a) m (p - min p q).toNat + Ieee.signed (sgZ b) n (q - min p q).toNat = T at ht ⊢
      unfold sumZ sumS
      rw [← ht]
      have e0 : (T * 2 ^ (min p q + 1074).toNat = 0) ↔ T = 0 := by
        rw [Int.mul_eq_zero]; omega
      have e1 : (T * 2 ^ (min p q + 1074).toNat < 0) ↔ T < 0 := by
        constructor
        · intro h
          rcases Int.lt_or_le T 0 with h3 | h3
          · exact h3
          · have := Int.mul_nonneg h3 (Int.le_of_lt hK); omega
        · intro h; exact Int.mul_neg_of_neg_of_pos h hK
      have e2 : (T * 2 ^ (min p q + 1074).toNat).natAbs = T.natAbs * 2 ^ (min p q + 1074).toNat := by
        rw [Int.natAbs_mul, Int.natAbs_pow]; rfl
      rw [e2]
      simp only [e0, e1]
    · have hn : ¬ nanSum a b := by unfold nanSum; omega
      rw [read_inf hb h2, if_neg hn, if_neg hn, if_neg (by omega), if_pos (by omega)]
      simp only [Ieee.Datum.sum, Option.map_some, Option.some.injEq]
      show Ieee.double.write _ = _
      unfold Ieee.Format.write
      simp only [dbl_inf, dbl_word]
      rw [← h2]; exact word_of b hb
    · obtain ⟨s, f, r2⟩ := read_nan h2
      rw [r2, if_pos (by unfold nanSum; omega)]
      rfl
  · rw [read_inf ha h1]
    rcases Nat.lt_trichotomy (rungZ b) 9218868437227405312 with h2 | h2 | h2
    · obtain ⟨n, q, r2, hq, hw⟩ := read_num hb h2
      have hn : ¬ nanSum a b := by unfold nanSum; omega
      rw [r2, if_neg hn, if_neg hn, if_pos (by omega)]
      simp only [Ieee.Datum.sum, Option.map_some, Option.some.injEq]
      show Ieee.double.write _ = _
      unfold Ieee.Format.write
      simp only [dbl_inf, dbl_word]
      rw [← h1]; exact word_of a ha
    · rw [read_inf hb h2]
      have wa := word_of a ha
      have wb := word_of b hb
      rw [h1] at wa
      rw [h2] at wb
      by_cases hs : sgZ a = sgZ b
      · have hab : a = b := by rw [← wa, ← wb, hs]
        have hn : ¬ nanSum a b := by unfold nanSum; omega
        rw [if_neg hn, if_neg hn, if_pos (by omega)]
        simp only [Ieee.Datum.sum, if_pos hs, Option.map_some, Option.some.injEq]
        show Ieee.double.write _ = _
        unfold Ieee.Format.write
        simp only [dbl_inf, dbl_word]
        exact wa
      · have hab : a ≠ b := fun e => hs (by rw [e])
        rw [if_pos (by unfold nanSum; omega)]
        simp only [Ieee.Datum.sum, if_neg hs]
        rfl
    · obtain ⟨s, f, r2⟩ := read_nan h2
      rw [r2, if_pos (by unfold nanSum; omega)]
      rfl
  · obtain ⟨s, f, r1⟩ := read_nan h1
    rw [r1, if_pos (by unfold nanSum; omega)]
    rfl

end Go.Proofs.Ytaahaehgdamkdaa
