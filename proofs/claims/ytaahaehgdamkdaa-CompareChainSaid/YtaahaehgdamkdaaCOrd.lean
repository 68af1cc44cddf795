/- How values stand to each other, and what tests say of it. Plain; conditions: none. -/
import Derived.Test.YtaahaehgdamkdaaBase
import Derived.Test.YtaahaehgdamkdaaVR1
namespace Go.Proofs.Ytaahaehgdamkdaa
open Go Go.RowKit

/-- a whole number against any double that is a number -/
theorem versus_key {n : Int} {u : Nat} (h0 : -4611686018427387904 ≤ n) (h1 : n ≤ 4611686018427387904) (hk : kindZ u ≠ 5) : versusZ n u = (cmpI (n * (Qz : Int)) (svalZ u), true) := by
  rcases versus_cases (u := u) h0 h1 with ⟨h, e⟩ | ⟨h, e⟩ | ⟨h, h4, e⟩
  · exact absurd h hk
  · rw [e]
    have hQ := Q_pos
    have hr : 4886405595696988160 < rungZ u := by
      rw [rung_parts]
      unfold kindZ at h
      (repeat' split at h) <;> omega
    have hv := worth_mono hr
    rw [worth_bound] at hv
    have hv' : ((4611686018427387904 * Qz : Nat) : Int) < (valZ u : Int) := by unfold valZ; omega
    rw [Int.natCast_mul] at hv'
    have ha : n * (Qz : Int) ≤ 4611686018427387904 * (Qz : Int) := Int.mul_le_mul_of_nonneg_right h1 (by omega)
    have hb : -4611686018427387904 * (Qz : Int) ≤ n * (Qz : Int) := Int.mul_le_mul_of_nonneg_right h0 (by omega)
    rw [Int.neg_mul] at hb
    generalize n * (Qz : Int) = N at *
    generalize (Qz : Int) = Q at *
    have hv2 : 4611686018427387904 * Q < (valZ u : Int) := hv'
    unfold svalZ
    cases sgZ u
    · exact congrArg (fun x => (x, true)) (cmp_lt (by show N < (valZ u : Int); omega)).symm
    · exact congrArg (fun x => (x, true)) (cmp_gt (by show -(valZ u : Int) < N; omega)).symm
  · exact e

theorem check_parts {k : Nat} {n : Int} {b : Nat} {t : ByteArray} (h : checkV k n b t = 0) :
    (k = 1 ∧ -4611686018427387904 ≤ n ∧ n ≤ 4611686018427387904 ∧ b = 0 ∧ t = noText) ∨ (k = 2 ∧ 0 ≤ n ∧ n ≤ 1 ∧ b = 0 ∧ t = noText) ∨ (k = 3 ∧ n = 0 ∧ cleanZ b = b ∧ t = noText) ∨ (k = 4 ∧ n = 0 ∧ b = 0 ∧ t.size ≤ 24) := by
  have ht : t = noText ↔ t.size = 0 := text_none t
  by_cases h0 : k < 1 ∨ 4 < k
  · rw [check_kind h0] at h; cases h
  · have : k = 1 ∨ k = 2 ∨ k = 3 ∨ k = 4 := by omega
    rcases this with rfl | rfl | rfl | rfl
    · rw [check_int] at h
      (repeat' split at h) <;> first | (left; rw [ht]; omega) | cases h
    · rw [check_flag] at h
      (repeat' split at h) <;> first | (right; left; rw [ht]; omega) | cases h
    · rw [check_real] at h
      generalize cleanZ b = c at *
      (repeat' split at h) <;> first | (right; right; left; rw [ht]; omega) | cases h
    · rw [check_text] at h
      (repeat' split at h) <;> first | (right; right; right; omega) | cases h

/-- a number as a whole multiple of the least double -/
def keyV (k : Nat) (n : Int) (b : Nat) : Int := if k = 1 then n * (Qz : Int) else svalZ b

theorem cmpI_scale (x y : Int) : cmpI (x * (Qz : Int)) (y * (Qz : Int)) = cmpI x y := by
  have hQ : (0 : Int) < (Qz : Int) := by have := Q_pos; omega
  unfold cmpI
  have h1 : x * (Qz : Int) < y * (Qz : Int) ↔ x < y := Int.mul_lt_mul_right hQ
  have h2 : x * (Qz : Int) = y * (Qz : Int) ↔ x = y := ⟨fun h => Int.eq_of_mul_eq_mul_right (by omega) h, fun h => by rw [h]⟩
  by_cases h3 : x < y
  · rw [if_pos (h1.2 h3), if_pos h3]
  · rw [if_neg (fun h => h3 (h1.1 h)), if_neg h3]
    by_cases h4 : x = y
    · rw [if_pos (h2.2 h4), if_pos h4]
    · rw [if_neg (fun h => h4 (h2.1 h)), if_neg h4]

theorem less_sval {b c : Nat} (h1 : kindZ b ≠ 5) (h2 : kindZ c ≠ 5) : lessZ b c = decide (svalZ b < svalZ c) := by
  unfold lessZ
  rw [decide_eq_decide, sval_lt_iff]
  exact ⟨fun h => h.2.2, fun h => ⟨h1, h2, h⟩⟩
theorem equal_sval {b c : Nat} (h1 : kindZ b ≠ 5) (h2 : kindZ c ≠ 5) : equalZ b c = decide (svalZ b = svalZ c) := by
  unfold equalZ
  rw [decide_eq_decide, sval_eq_iff]
  exact ⟨fun h => h.2.2, fun h => ⟨h1, h2, h⟩⟩

theorem kind_zero0 : kindZ 0 = 1 := by decide

/-- numbers in order stand as their keys do -/
theorem stand_num {k l : Nat} {n m : Int} {b c : Nat} {t u : ByteArray} (h1 : checkV k n b t = 0) (h2 : checkV l m c u = 0) (hk : k = 1 ∨ k = 3) (hl : l = 1 ∨ l = 3) (hb : kindZ b ≠ 5) (hc : kindZ c ≠ 5) :
    standV k n b t l m c u = (cmpI (keyV k n b) (keyV l m c), true) := by
  have p1 := check_parts h1
  have p2 := check_parts h2
  rcases hk with rfl | rfl <;> rcases hl with rfl | rfl
  · unfold standV keyV
    rw [if_neg (by decide), if_neg (by decide), if_neg (by decide), if_pos rfl, if_pos rfl, cmpI_scale]
    unfold rankV
    rw [if_neg (fun h => h rfl), if_pos (Or.inl rfl)]
  · unfold standV keyV
    rw [if_pos ⟨rfl, rfl⟩, if_pos rfl, if_neg (by decide), versus_key (by omega) (by omega) hc]
  · unfold standV keyV
    rw [if_neg (by decide), if_pos ⟨rfl, rfl⟩, if_pos rfl, if_neg (by decide), versus_key (by omega) (by omega) hb]
    exact congrArg (fun x => (x, true)) (cmpI_turn _ _).symm
  · have e1 : keyV 3 n b = svalZ b := if_neg (by decide)
    have e2 : keyV 3 m c = svalZ c := if_neg (by decide)
    have e0 : standV 3 n b t 3 m c u = if lessZ b c then (-1, true) else if lessZ c b then (1, true) else (0, equalZ b c) := by
      unfold standV
      rw [if_neg (by omega), if_neg (by omega), if_pos rfl]
    rw [e0, e1, e2, less_sval hb hc, less_sval hc hb, equal_sval hb hc]
    generalize svalZ b = B
    generalize svalZ c = C
    unfold cmpI
    rcases Int.lt_trichotomy B C with h | h | h
    · rw [decide_eq_true h]; exact congrArg (fun x => (x, true)) (if_pos h).symm
    · rw [decide_eq_false (show ¬ B < C by omega), decide_eq_false (show ¬ C < B by omega), decide_eq_true h]
      exact congrArg (fun x => (x, true)) (show (0 : Int) = if B < C then -1 else if B = C then 0 else 1 by rw [if_neg (by omega), if_pos h])
    · rw [decide_eq_false (show ¬ B < C by omega), decide_eq_true h]
      exact congrArg (fun x => (x, true)) (show (1 : Int) = if B < C then -1 else if B = C then 0 else 1 by rw [if_neg (by omega), if_neg (by omega)])

theorem stand_nan {k l : Nat} {n m : Int} {b c : Nat} {t u : ByteArray} (h1 : checkV k n b t = 0) (h2 : checkV l m c u = 0) (hk : k = 1 ∨ k = 3) (hl : l = 1 ∨ l = 3) (h : kindZ b = 5 ∨ kindZ c = 5) :
    (standV k n b t l m c u).2 = false := by
  have p1 := check_parts h1
  have p2 := check_parts h2
  have hz := kind_zero0
  rcases hk with rfl | rfl <;> rcases hl with rfl | rfl
  · have e1 : b = 0 := by omega
    have e2 : c = 0 := by omega
    subst e1; subst e2
    omega
  · have e1 : b = 0 := by omega
    subst e1
    unfold standV
    rw [if_pos ⟨rfl, rfl⟩, versus_out (Or.inl (by omega))]
  · have e2 : c = 0 := by omega
    subst e2
    unfold standV
    rw [if_neg (by decide), if_pos ⟨rfl, rfl⟩, versus_out (Or.inl (by omega))]
  · have l1 : lessZ b c = false := by unfold lessZ; exact decide_eq_false (by omega)
    have l2 : lessZ c b = false := by unfold lessZ; exact decide_eq_false (by omega)
    have l3 : equalZ b c = false := by unfold equalZ; exact decide_eq_false (by omega)
    unfold standV
    rw [if_neg (by decide), if_neg (by decide), if_pos rfl, l1, l2, l3]
    rfl

/-- what tests say of two values that may be: five ways -/
theorem holds_ways {k l : Nat} {n m : Int} {b c : Nat} {t u : ByteArray} (h1 : checkV k n b t = 0) (h2 : checkV l m c u = 0) :
    (k ≠ l ∧ ¬ ((k = 1 ∨ k = 3) ∧ (l = 1 ∨ l = 3)) ∧ ∀ o, 1 ≤ o → o ≤ 6 → holdsV o k n b t l m c u = decide (o = 2)) ∨
    ((k = 1 ∨ k = 3) ∧ (l = 1 ∨ l = 3) ∧ (kindZ b = 5 ∨ kindZ c = 5) ∧ ∀ o, 1 ≤ o → o ≤ 6 → holdsV o k n b t l m c u = decide (o = 2)) ∨
    ((k = 1 ∨ k = 3) ∧ (l = 1 ∨ l = 3) ∧ kindZ b ≠ 5 ∧ kindZ c ≠ 5 ∧ ∀ o, 1 ≤ o → o ≤ 6 → holdsV o k n b t l m c u = saysV o (cmpI (keyV k n b) (keyV l m c))) ∨
    (k = 2 ∧ l = 2 ∧ ∀ o, 1 ≤ o → o ≤ 6 → holdsV o k n b t l m c u = (decide (o ≤ 2) && saysV o (cmpI n m))) ∨
    (k = 4 ∧ l = 4 ∧ ∀ o, 1 ≤ o → o ≤ 6 → holdsV o k n b t l m c u = saysV o (cmpT t u)) := by
  have nk : ∀ j, numK j = true ↔ (j = 1 ∨ j = 3) := fun j => decide_eq_true_iff
  by_cases hn : (k = 1 ∨ k = 3) ∧ (l = 1 ∨ l = 3)
  · obtain ⟨hk, hl⟩ := hn
    have hng : ¬ (k ≠ l ∧ ¬ (numK k = true ∧ numK l = true)) := fun h => h.2 ⟨(nk k).2 hk, (nk l).2 hl⟩
    by_cases hnan : kindZ b = 5 ∨ kindZ c = 5
    · refine Or.inr (Or.inl ⟨hk, hl, hnan, fun o o1 o6 => ?_⟩)
      unfold holdsV
      rw [if_neg (by omega), if_neg hng, if_pos (stand_nan h1 h2 hk hl hnan)]
    · have hb : kindZ b ≠ 5 := fun h => hnan (Or.inl h)
      have hc : kindZ c ≠ 5 := fun h => hnan (Or.inr h)
      refine Or.inr (Or.inr (Or.inl ⟨hk, hl, hb, hc, fun o o1 o6 => ?_⟩))
      unfold holdsV
      rw [if_neg (by omega), if_neg hng, stand_num h1 h2 hk hl hb hc, if_neg (show ¬ (true = false) by decide), if_neg (by omega)]
  · by_cases hkl : k = l
    · subst hkl
      have p1 := check_parts h1
      have hk : k = 2 ∨ k = 4 := by omega
      have hs : standV k n b t k m c u = (rankV k n b t k m c u, true) := by
        unfold standV
        rw [if_neg (by omega), if_neg (by omega), if_neg (by omega)]
      rcases hk with rfl | rfl
      · refine Or.inr (Or.inr (Or.inr (Or.inl ⟨rfl, rfl, fun o o1 o6 => ?_⟩)))
        unfold holdsV
        rw [if_neg (by omega), if_neg (fun h => h.1 rfl), hs, if_neg (show ¬ (true = false) by decide)]
        have hr : rankV 2 n b t 2 m c u = cmpI n m := by
          unfold rankV
          rw [if_neg (fun h => h rfl), if_pos (Or.inr rfl)]
        by_cases ho : o ≤ 2
        · rw [if_neg (by omega), decide_eq_true ho, Bool.true_and, hr]
        · rw [if_pos (by omega), decide_eq_false ho, Bool.false_and]
      · refine Or.inr (Or.inr (Or.inr (Or.inr ⟨rfl, rfl, fun o o1 o6 => ?_⟩)))
        unfold holdsV
        rw [if_neg (by omega), if_neg (fun h => h.1 rfl), hs, if_neg (show ¬ (true = false) by decide), if_neg (by omega)]
        have hr : rankV 4 n b t 4 m c u = cmpT t u := by
          unfold rankV
          rw [if_neg (fun h => h rfl), if_neg (by decide), if_neg (by decide), if_pos rfl]
        rw [hr]
    · refine Or.inl ⟨hkl, hn, fun o o1 o6 => ?_⟩
      unfold holdsV
      rw [if_neg (by omega), if_pos ⟨hkl, fun h => hn ⟨(nk k).1 h.1, (nk l).1 h.2⟩⟩]

theorem holds_bad {o k l : Nat} {n m : Int} {b c : Nat} {t u : ByteArray} (h : checkV k n b t ≠ 0 ∨ checkV l m c u ≠ 0) : holdsV o k n b t l m c u = false := by
  unfold holdsV
  rw [if_pos (Or.inr (Or.inr h))]

theorem says_iff (o : Nat) (x : Int) : saysV o x = true ↔ ((o = 1 ∧ x = 0) ∨ (o = 2 ∧ x ≠ 0) ∨ (o = 3 ∧ x < 0) ∨ (o = 4 ∧ x ≤ 0) ∨ (o = 5 ∧ 0 < x) ∨ (o = 6 ∧ 0 ≤ x)) := decide_eq_true_iff
end Go.Proofs.Ytaahaehgdamkdaa
