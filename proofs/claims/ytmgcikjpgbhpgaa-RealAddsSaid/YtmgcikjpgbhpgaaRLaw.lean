/- What holds of doubles by the document: order, sums, whole numbers. Plain; conditions: none. -/
import Derived.Test.YtmgcikjpgbhpgaaRWh
namespace Go.Proofs.Ytmgcikjpgbhpgaa
open Go

/-! ### what a sum is -/
theorem rung_word (s : Bool) {r : Nat} (h : r < 9223372036854775808) : rungZ (wordZ s r) = r ∧ sgZ (wordZ s r) = s ∧ wordZ s r < 18446744073709551616 := by
  unfold rungZ sgZ wordZ
  cases s
  · rw [if_neg (by decide)]
    exact ⟨by omega, decide_eq_false (by omega), by omega⟩
  · rw [if_pos rfl]
    exact ⟨by omega, decide_eq_true (by omega), by omega⟩
theorem rung_rd (s : Bool) (N : Nat) : rungZ (rdZ s N) = min (rnd N) 9218868437227405312 ∧ sgZ (rdZ s N) = s ∧ rdZ s N < 18446744073709551616 := rung_word s (by omega)
theorem rd_kind (s : Bool) (N : Nat) : kindZ (rdZ s N) ≠ 5 := by
  have h1 := (rung_rd s N).1
  have h2 := @kind_nan (rdZ s N)
  omega
theorem rnd_pos {N : Nat} (h : 0 < N) : 0 < rnd N := by
  have h1 := rnd_mono (show 1 ≤ N by omega)
  rw [rnd_small (show 1 < 9007199254740992 by omega)] at h1
  omega
/-- a whole multiple of the least double, rounded, with its sign -/
def rdI (t : Int) : Int := if t < 0 then -((min (rnd t.natAbs) 9218868437227405312 : Nat) : Int) else ((min (rnd t.natAbs) 9218868437227405312 : Nat) : Int)
theorem rdI_mono {s t : Int} (h : s ≤ t) : rdI s ≤ rdI t := by
  unfold rdI
  by_cases hs : s < 0 <;> by_cases ht : t < 0
  · rw [if_pos hs, if_pos ht]
    have := rnd_mono (show t.natAbs ≤ s.natAbs by omega)
    omega
  · rw [if_pos hs, if_neg ht]; omega
  · omega
  · rw [if_neg hs, if_neg ht]
    have := rnd_mono (show s.natAbs ≤ t.natAbs by omega)
    omega
theorem rdI_neg (t : Int) : rdI (-t) = -rdI t := by
  unfold rdI
  rw [Int.natAbs_neg]
  rcases Int.lt_trichotomy t 0 with h | h | h
  · rw [if_neg (by omega), if_pos h]; omega
  · subst h
    rw [if_neg (by omega), if_neg (by omega), show rnd (Int.natAbs 0) = 0 from rnd_small (by decide), Nat.zero_min]
    rfl
  · rw [if_pos (by omega), if_neg (by omega)]
theorem srk_rd {s : Bool} {t : Int} (h : t = 0 ∨ s = decide (t < 0)) : srkZ (rdZ s t.natAbs) = rdI t := by
  obtain ⟨h1, h2, _⟩ := rung_rd s t.natAbs
  unfold srkZ rdI
  rw [h1, h2]
  rcases h with h | h
  · subst h
    show (if s = true then -((min (rnd 0) _ : Nat) : Int) else ((min (rnd 0) _ : Nat) : Int)) = _
    rw [rnd_small (by omega), if_neg (show ¬ (0 : Int) < 0 by omega)]
    cases s <;> simp <;> rfl
  · rw [h]
    by_cases ht : t < 0
    · rw [decide_eq_true ht, if_pos rfl, if_pos ht]
    · rw [decide_eq_false ht, if_neg (by decide), if_neg ht]
theorem srk_sum (a b : Nat) : srkZ (sumZ a b) = rdI (svalZ a + svalZ b) := by
  unfold sumZ
  refine srk_rd ?_
  unfold sumS
  by_cases h : svalZ a + svalZ b = 0
  · exact Or.inl h
  · right; rw [if_neg h]
theorem sval_srk {u : Nat} (h : rungZ u ≤ 9218868437227405312) : rdI (svalZ u) = srkZ u := by
  unfold rdI svalZ srkZ valZ
  have h1 := rnd_worth (rungZ u)
  cases hs : sgZ u
  · simp only [if_false, Bool.false_eq_true]
    rw [if_neg (by omega), show ((worthR (rungZ u) : Nat) : Int).natAbs = worthR (rungZ u) by omega, h1]
    omega
  · simp only [if_true]
    have e : (-((worthR (rungZ u) : Nat) : Int)).natAbs = worthR (rungZ u) := by omega
    rw [e, h1]
    by_cases h0 : worthR (rungZ u) = 0
    · have hr : rungZ u = 0 := by rw [← h1, h0]; exact rnd_small (by omega)
      rw [h0, hr]; simp
    · rw [if_pos (by omega)]; omega
theorem word_srk {a b : Nat} (ha : a < 18446744073709551616) (hb : b < 18446744073709551616) (hs : sgZ a = sgZ b) (h : srkZ a = srkZ b) : a = b := by
  have wa := word_of a ha
  have wb := word_of b hb
  unfold srkZ at h
  rw [hs] at h wa
  have : rungZ a = rungZ b := by
    cases h2 : sgZ b <;> rw [h2] at h <;> simp at h <;> omega
  exact wa.symm.trans ((congrArg _ this).trans wb)
theorem sum_lt (a b : Nat) : sumZ a b < 18446744073709551616 := (rung_rd _ _).2.2
theorem sum_sg (a b : Nat) : sgZ (sumZ a b) = sumS a b := (rung_rd _ _).2.1
theorem sum_kind (a b : Nat) : kindZ (sumZ a b) ≠ 5 := rd_kind _ _
theorem srk_zero {u : Nat} : srkZ u = 0 ↔ rungZ u = 0 := by unfold srkZ; split <;> omega
theorem rdI_zero {t : Int} : rdI t = 0 ↔ t = 0 := by
  unfold rdI
  constructor
  · intro h
    rcases Int.lt_trichotomy t 0 with h1 | h1 | h1
    · rw [if_pos h1] at h
      have := rnd_pos (show 0 < t.natAbs by omega); omega
    · exact h1
    · rw [if_neg (by omega)] at h
      have := rnd_pos (show 0 < t.natAbs by omega); omega
  · intro h
    subst h
    rw [if_neg (by omega)]
    show ((min (rnd 0) _ : Nat) : Int) = 0
    rw [rnd_small (by omega)]; rfl
theorem sval_zero {u : Nat} : svalZ u = 0 ↔ rungZ u = 0 := by
  have h1 := sval_eq_iff u 0
  have h2 : svalZ 0 = 0 := by decide
  have h3 : srkZ 0 = 0 := by decide
  rw [h2, h3, srk_zero] at h1
  exact h1

/-! ### the laws of sums -/
theorem add_clean (a b : Nat) (ha : a < 18446744073709551616) (hb : b < 18446744073709551616) : cleanZ (addZ a b) = addZ a b ∧ addZ a b < 18446744073709551616 := by
  unfold addZ
  split
  · exact ⟨by decide, by decide⟩
  · rename_i hn
    unfold nanSum at hn
    split
    · unfold cleanZ; rw [if_neg (by omega)]; exact ⟨rfl, ha⟩
    · split
      · unfold cleanZ; rw [if_neg (by omega)]; exact ⟨rfl, hb⟩
      · unfold cleanZ; rw [if_neg (sum_kind a b)]; exact ⟨rfl, sum_lt a b⟩

/-- with a zero that leaves all -/
theorem sum_with {a z : Nat} (ha : a < 18446744073709551616) (hk : rungZ a < 9218868437227405312) (hz : rungZ z = 0) (hs : rungZ a ≠ 0 ∨ (sgZ a && sgZ z) = sgZ a) : sumZ a z = a := by
  have hz0 : svalZ z = 0 := sval_zero.2 hz
  have h1 : srkZ (sumZ a z) = srkZ a := by rw [srk_sum, hz0, Int.add_zero, sval_srk (by omega)]
  refine word_srk (sum_lt a z) ha ?_ h1
  rw [sum_sg]
  unfold sumS
  rw [hz0, Int.add_zero]
  by_cases h0 : rungZ a = 0
  · rw [if_pos (sval_zero.2 h0)]
    rcases hs with h2 | h2
    · exact absurd h0 h2
    · exact h2
  · have hne : svalZ a ≠ 0 := fun h => h0 (sval_zero.1 h)
    rw [if_neg hne]
    have hv : 0 < valZ a := by
      have := worth_mono (show 0 < rungZ a by omega)
      unfold valZ; omega
    unfold svalZ
    cases hsg : sgZ a
    · exact decide_eq_false (by simp)
    · exact decide_eq_true (by simp; omega)
theorem zero_parts : kindZ 0 = 1 ∧ rungZ 0 = 0 ∧ sgZ 0 = false := by decide
theorem minus_parts : kindZ 9223372036854775808 = 1 ∧ rungZ 9223372036854775808 = 0 ∧ sgZ 9223372036854775808 = true := by decide
theorem add_minus (a : Nat) (ha : a < 18446744073709551616) : addZ a 9223372036854775808 = cleanZ a := by
  obtain ⟨k, r, s⟩ := minus_parts
  have hn : nanSum a 9223372036854775808 ↔ kindZ a = 5 := by unfold nanSum; rw [k]; omega
  unfold addZ cleanZ
  by_cases h5 : kindZ a = 5
  · rw [if_pos (hn.2 h5), if_pos h5]
  · rw [if_neg (fun h => h5 (hn.1 h)), if_neg h5]
    by_cases h4 : kindZ a = 4
    · rw [if_pos h4]
    · rw [if_neg h4, if_neg (by omega)]
      refine sum_with ha (kind_fin.1 ⟨h5, h4⟩) r (Or.inr ?_)
      rw [s, Bool.and_true]
theorem add_zero (a : Nat) (ha : a < 18446744073709551616) (hk : kindZ a ≠ 1) : addZ a 0 = cleanZ a := by
  obtain ⟨k, r, s⟩ := zero_parts
  have hn : nanSum a 0 ↔ kindZ a = 5 := by unfold nanSum; rw [k]; omega
  unfold addZ cleanZ
  by_cases h5 : kindZ a = 5
  · rw [if_pos (hn.2 h5), if_pos h5]
  · rw [if_neg (fun h => h5 (hn.1 h)), if_neg h5]
    by_cases h4 : kindZ a = 4
    · rw [if_pos h4]
    · rw [if_neg h4, if_neg (by omega)]
      exact sum_with ha (kind_fin.1 ⟨h5, h4⟩) r (Or.inl (fun h => hk (kind_zero.2 h)))

/-- both signs turned -/
theorem add_negs (a b : Nat) (ha : a < 18446744073709551616) (hb : b < 18446744073709551616) :
    (kindZ (addZ a b) ≠ 1 → addZ (negZ a) (negZ b) = negZ (addZ a b)) ∧ (kindZ (addZ a b) = 1 → kindZ (addZ (negZ a) (negZ b)) = 1) := by
  have ka := neg_kind ha
  have kb := neg_kind hb
  by_cases hn : nanSum a b
  · have hn2 : nanSum (negZ a) (negZ b) := by
      unfold nanSum at hn ⊢
      rw [ka, kb]
      rcases hn with h | h | ⟨h1, h2, h3⟩
      · exact Or.inl h
      · exact Or.inr (Or.inl h)
      · refine Or.inr (Or.inr ⟨h1, h2, fun e => h3 ?_⟩)
        have h5 := neg_neg ha
        have h6 := neg_neg hb
        rw [e, h6] at h5
        unfold cleanZ at h5
        rw [if_neg (by omega), if_neg (by omega)] at h5
        exact h5.symm
    have e1 : addZ a b = nanC := if_pos hn
    have e2 : addZ (negZ a) (negZ b) = nanC := if_pos hn2
    rw [e1, e2]
    refine ⟨fun _ => (neg_nan kind_clean_nan).symm, fun h => ?_⟩
    rw [kind_clean_nan] at h; omega
  · have hn2 : ¬ nanSum (negZ a) (negZ b) := by
      unfold nanSum at hn ⊢
      rw [ka, kb]
      rintro (h | h | ⟨h1, h2, h3⟩)
      · exact hn (Or.inl h)
      · exact hn (Or.inr (Or.inl h))
      · by_cases hab : a = b
        · subst hab; exact h3 rfl
        · exact hn (Or.inr (Or.inr ⟨h1, h2, hab⟩))
    have e1 : addZ a b = if kindZ a = 4 then a else if kindZ b = 4 then b else sumZ a b := if_neg hn
    have e2 : addZ (negZ a) (negZ b) = if kindZ (negZ a) = 4 then negZ a else if kindZ (negZ b) = 4 then negZ b else sumZ (negZ a) (negZ b) := if_neg hn2
    have h5a : kindZ a ≠ 5 := fun h => hn (Or.inl h)
    have h5b : kindZ b ≠ 5 := fun h => hn (Or.inr (Or.inl h))
    rw [e1, e2, ka, kb]
    by_cases h4 : kindZ a = 4
    · rw [if_pos h4, if_pos h4]
      exact ⟨fun _ => rfl, fun h => by rw [ka]; exact h⟩
    · rw [if_neg h4, if_neg h4]
      by_cases h4b : kindZ b = 4
      · rw [if_pos h4b, if_pos h4b]
        exact ⟨fun _ => rfl, fun h => by rw [kb]; exact h⟩
      · rw [if_neg h4b, if_neg h4b]
        have hsrk : srkZ (sumZ (negZ a) (negZ b)) = -srkZ (sumZ a b) := by
          rw [srk_sum, srk_sum, neg_sval ha h5a, neg_sval hb h5b, ← rdI_neg]
          congr 1
          omega
        refine ⟨fun h1 => ?_, fun h1 => ?_⟩
        · have h0 : svalZ a + svalZ b ≠ 0 := by
            intro h
            apply h1
            rw [kind_zero, ← srk_zero, srk_sum, h]
            exact rdI_zero.2 rfl
          refine word_srk (sum_lt _ _) (neg_lt (sum_lt a b)) ?_ (by rw [hsrk, neg_srk (sum_lt a b) (sum_kind a b)])
          rw [sum_sg, (neg_num (sum_lt a b) (sum_kind a b)).2.2, sum_sg]
          unfold sumS
          rw [neg_sval ha h5a, neg_sval hb h5b, if_neg (by omega), if_neg h0]
          rcases Int.lt_or_le (svalZ a + svalZ b) 0 with h2 | h2
          · rw [decide_eq_true h2, decide_eq_false (by omega)]; rfl
          · rw [decide_eq_false (show ¬ svalZ a + svalZ b < 0 by omega), decide_eq_true (by omega)]; rfl
        · rw [kind_zero, ← srk_zero] at h1 ⊢
          rw [hsrk, h1]; rfl

/-- a number less itself -/
theorem add_self (a : Nat) (ha : a < 18446744073709551616) (h5 : kindZ a ≠ 5) (h4 : kindZ a ≠ 4) : addZ a (negZ a) = 0 := by
  have ka := neg_kind ha
  have hn : ¬ nanSum a (negZ a) := by unfold nanSum; rw [ka]; omega
  unfold addZ
  rw [if_neg hn, ka, if_neg h4, if_neg h4]
  refine sum_none ?_ ?_
  · rw [(neg_num ha h5).2.2]
    cases sgZ a <;> decide
  · unfold valZ
    rw [(neg_num ha h5).2.1]

theorem inf_srk {u : Nat} (h : kindZ u = 4) : srkZ u = if sgZ u then -9218868437227405312 else 9218868437227405312 := by
  unfold srkZ
  rw [kind_inf.1 h]
  rfl
/-- what is added to two stays in order -/
theorem add_mono (a b c : Nat) (h : lessZ a b = true) : lessZ (addZ b c) (addZ a c) = false := by
  obtain ⟨ka, kb, hab⟩ := less_true.1 h
  rw [Bool.eq_false_iff]
  intro h2
  obtain ⟨k1, k2, h3⟩ := less_true.1 h2
  have hnb : ¬ nanSum b c := fun hn => k1 (by unfold addZ; rw [if_pos hn]; exact kind_clean_nan)
  have hna : ¬ nanSum a c := fun hn => k2 (by unfold addZ; rw [if_pos hn]; exact kind_clean_nan)
  have e1 : addZ b c = if kindZ b = 4 then b else if kindZ c = 4 then c else sumZ b c := if_neg hnb
  have e2 : addZ a c = if kindZ a = 4 then a else if kindZ c = 4 then c else sumZ a c := if_neg hna
  have kc : kindZ c ≠ 5 := fun h => hna (Or.inr (Or.inl h))
  have s1 := srk_bound k1
  have s2 := srk_bound k2
  have sa := srk_bound ka
  have sb := srk_bound kb
  rw [e1, e2] at h3
  rw [e1] at s1
  rw [e2] at s2
  by_cases hc4 : kindZ c = 4
  · rw [if_pos hc4] at h3 s1
    rw [if_pos hc4] at h3 s2
    have hca : kindZ a = 4 → a = c := fun h4 => by
      rcases Nat.lt_trichotomy a c with h5 | h5 | h5
      · exact absurd (Or.inr (Or.inr ⟨h4, hc4, by omega⟩)) hna
      · exact h5
      · exact absurd (Or.inr (Or.inr ⟨h4, hc4, by omega⟩)) hna
    have hcb : kindZ b = 4 → b = c := fun h4 => by
      rcases Nat.lt_trichotomy b c with h5 | h5 | h5
      · exact absurd (Or.inr (Or.inr ⟨h4, hc4, by omega⟩)) hnb
      · exact h5
      · exact absurd (Or.inr (Or.inr ⟨h4, hc4, by omega⟩)) hnb
    split at h3 <;> split at h3
    · rename_i h5 h6; rw [hcb h5, hca h6] at h3; omega
    · rename_i h5 h6; rw [hcb h5] at h3; omega
    · rename_i h5 h6; rw [hca h6] at h3; omega
    · omega
  · rw [if_neg hc4] at h3 s1
    rw [if_neg hc4] at h3 s2
    split at h3 <;> split at h3
    · omega
    · rename_i h5 h6
      have := inf_srk h5
      rw [if_neg h6] at s2
      revert this hab h3
      cases sgZ b <;> simp only [if_true, if_false, Bool.false_eq_true] <;> intros <;> omega
    · rename_i h5 h6
      have := inf_srk h6
      rw [if_neg h5] at s1
      revert this hab h3
      cases sgZ a <;> simp only [if_true, if_false, Bool.false_eq_true] <;> intros <;> omega
    · rw [srk_sum, srk_sum] at h3
      have hv := (sval_lt_iff a b).2 hab
      have := rdI_mono (show svalZ a + svalZ c ≤ svalZ b + svalZ c by omega)
      omega

end Go.Proofs.Ytmgcikjpgbhpgaa
