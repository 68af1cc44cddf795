/- What holds of doubles by the document: order, sums, whole numbers. Plain; conditions: none. -/
import Derived.Test.YtaahaehgdamkdaaRWh
namespace Go.Proofs.Ytaahaehgdamkdaa
open Go

/-! ### what a sum is -/
theorem rung_word (s : Bool) {r : Nat} (h : r < 9223372036854775808) : rungZ (wordZ s r) = r ∧ sgZ (wordZ s r) = s ∧ wordZ s r < 18446744073709551616 := by
  unfold rungZ sgZ wordZ
  cases s
  · rw [if_neg (by decide)]
    exact ⟨by omega, decide_eq_false (by omega), by omega⟩
  · rw [if_pos rfl]
    exact ⟨by omega, decide_eq_true (by omega), by omega⟩
theorem rung_rd (s : Bool) (N : Nat) : rungZ (rdZ s N) = min (rnd N) 9218868437227405312 ∧ sgZ (rdZ s N) = s ∧ rdZ s N < 18446744073709551616 := rung_word s (by omega)
theorem rd_kind (s : Bool) (N : Nat) : kindZ (rdZ s N) ≠ 5 := by
  have h1 := (rung_rd s N).1
  have h2 := @kind_nan (rdZ s N)
  omega
/-- a whole multiple of the least double, rounded, with its sign -/
def rdI (t : Int) : Int := if t < 0 then -((min (rnd t.natAbs) 9218868437227405312 : Nat) : Int) else ((min (rnd t.natAbs) 9218868437227405312 : Nat) : Int)
theorem srk_rd {s : Bool} {t : Int} (h : t = 0 ∨ s = decide (t < 0)) : srkZ (rdZ s t.natAbs) = rdI t := by
  obtain ⟨h1, h2, _⟩ := rung_rd s t.natAbs
  unfold srkZ rdI
  rw [h1, h2]
  rcases h with h | h
  · subst h
    show (if s = true then -((min (rnd 0) _ : Nat) : Int) else ((min (rnd 0) _ : Nat) : Int)) = _
    rw [rnd_small (by omega), if_neg (show ¬ (0 : Int) < 0 by omega)]
    cases s <;> simp <;> rfl
  · rw [h]
    by_cases ht : t < 0
    · rw [decide_eq_true ht, if_pos rfl, if_pos ht]
    · rw [decide_eq_false ht, if_neg (by decide), if_neg ht]
theorem srk_sum (a b : Nat) : srkZ (sumZ a b) = rdI (svalZ a + svalZ b) := by
  unfold sumZ
  refine srk_rd ?_
  unfold sumS
  by_cases h : svalZ a + svalZ b = 0
  · exact Or.inl h
  · right; rw [if_neg h]
theorem sval_srk {u : Nat} (h : rungZ u ≤ 9218868437227405312) : rdI (svalZ u) = srkZ u := by
  unfold rdI svalZ srkZ valZ
  have h1 := rnd_worth (rungZ u)
  cases hs : sgZ u
  · simp only [if_false, Bool.false_eq_true]
    rw [if_neg (by omega), show ((worthR (rungZ u) : Nat) : Int).natAbs = worthR (rungZ u) by omega, h1]
    omega
  · simp only [if_true]
    have e : (-((worthR (rungZ u) : Nat) : Int)).natAbs = worthR (rungZ u) := by omega
    rw [e, h1]
    by_cases h0 : worthR (rungZ u) = 0
    · have hr : rungZ u = 0 := by rw [← h1, h0]; exact rnd_small (by omega)
      rw [h0, hr]; simp
    · rw [if_pos (by omega)]; omega
theorem word_srk {a b : Nat} (ha : a < 18446744073709551616) (hb : b < 18446744073709551616) (hs : sgZ a = sgZ b) (h : srkZ a = srkZ b) : a = b := by
  have wa := word_of a ha
  have wb := word_of b hb
  unfold srkZ at h
  rw [hs] at h wa
  have : rungZ a = rungZ b := by
    cases h2 : sgZ b <;> rw [h2] at h <;> simp at h <;> omega
  exact wa.symm.trans ((congrArg _ this).trans wb)
theorem sum_lt (a b : Nat) : sumZ a b < 18446744073709551616 := (rung_rd _ _).2.2
theorem sum_sg (a b : Nat) : sgZ (sumZ a b) = sumS a b := (rung_rd _ _).2.1
theorem sum_kind (a b : Nat) : kindZ (sumZ a b) ≠ 5 := rd_kind _ _
theorem srk_zero {u : Nat} : srkZ u = 0 ↔ rungZ u = 0 := by unfold srkZ; split <;> omega
theorem sval_zero {u : Nat} : svalZ u = 0 ↔ rungZ u = 0 := by
  have h1 := sval_eq_iff u 0
  have h2 : svalZ 0 = 0 := by decide
  have h3 : srkZ 0 = 0 := by decide
  rw [h2, h3, srk_zero] at h1
  exact h1

/-! ### the laws of sums -/
theorem add_clean (a b : Nat) (ha : a < 18446744073709551616) (hb : b < 18446744073709551616) : cleanZ (addZ a b) = addZ a b ∧ addZ a b < 18446744073709551616 := by
  unfold addZ
  split
  · exact ⟨by decide, by decide⟩
  · rename_i hn
    unfold nanSum at hn
    split
    · unfold cleanZ; rw [if_neg (by omega)]; exact ⟨rfl, ha⟩
    · split
      · unfold cleanZ; rw [if_neg (by omega)]; exact ⟨rfl, hb⟩
      · unfold cleanZ; rw [if_neg (sum_kind a b)]; exact ⟨rfl, sum_lt a b⟩

/-- with a zero that leaves all -/
theorem sum_with {a z : Nat} (ha : a < 18446744073709551616) (hk : rungZ a < 9218868437227405312) (hz : rungZ z = 0) (hs : rungZ a ≠ 0 ∨ (sgZ a && sgZ z) = sgZ a) : sumZ a z = a := by
  have hz0 : svalZ z = 0 := sval_zero.2 hz
  have h1 : srkZ (sumZ a z) = srkZ a := by rw [srk_sum, hz0, Int.add_zero, sval_srk (by omega)]
  refine word_srk (sum_lt a z) ha ?_ h1
  rw [sum_sg]
  unfold sumS
  rw [hz0, Int.add_zero]
  by_cases h0 : rungZ a = 0
  · rw [if_pos (sval_zero.2 h0)]
    rcases hs with h2 | h2
    · exact absurd h0 h2
    · exact h2
  · have hne : svalZ a ≠ 0 := fun h => h0 (sval_zero.1 h)
    rw [if_neg hne]
    have hv : 0 < valZ a := by
      have := worth_mono (show 0 < rungZ a by omega)
      unfold valZ; omega
    unfold svalZ
    cases hsg : sgZ a
    · exact decide_eq_false (by simp)
    · exact decide_eq_true (by simp; omega)
theorem zero_parts : kindZ 0 = 1 ∧ rungZ 0 = 0 ∧ sgZ 0 = false := by decide
theorem add_zero (a : Nat) (ha : a < 18446744073709551616) (hk : kindZ a ≠ 1) : addZ a 0 = cleanZ a := by
  obtain ⟨k, r, s⟩ := zero_parts
  have hn : nanSum a 0 ↔ kindZ a = 5 := by unfold nanSum; rw [k]; omega
  unfold addZ cleanZ
  by_cases h5 : kindZ a = 5
  · rw [if_pos (hn.2 h5), if_pos h5]
  · rw [if_neg (fun h => h5 (hn.1 h)), if_neg h5]
    by_cases h4 : kindZ a = 4
    · rw [if_pos h4]
    · rw [if_neg h4, if_neg (by omega)]
      exact sum_with ha (kind_fin.1 ⟨h5, h4⟩) r (Or.inl (fun h => hk (kind_zero.2 h)))

end Go.Proofs.Ytaahaehgdamkdaa
