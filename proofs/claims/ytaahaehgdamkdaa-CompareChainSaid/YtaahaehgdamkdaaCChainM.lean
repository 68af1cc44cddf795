/- What is less, or equal, goes on from one value to the next. Plain; conditions: none. -/
import Derived.Test.YtaahaehgdamkdaaCOrd
namespace Go.Proofs.Ytaahaehgdamkdaa
open Go Go.RowKit

theorem says_lt (r : Int) : saysV 3 r = true ↔ r < 0 := by rw [says_iff]; omega
theorem says_le (r : Int) : saysV 4 r = true ↔ r ≤ 0 := by rw [says_iff]; omega
set_option maxHeartbeats 2000000 in
theorem chain_less {k l j : Nat} {n m i : Int} {b c d : Nat} {t u v : ByteArray} (o1 o2 : Nat) (h12 : (o1 = 3 ∧ o2 = 4) ∨ (o1 = 4 ∧ o2 = 3)) (h1 : holdsV o1 k n b t l m c u = true) (h2 : holdsV o2 l m c u j i d v = true) : holdsV 3 k n b t j i d v = true := by
  have ok : ∀ o k n b t l m c u, holdsV o k n b t l m c u = true → checkV k n b t = 0 ∧ checkV l m c u = 0 := by
    intro o k n b t l m c u h
    by_cases hbad : checkV k n b t ≠ 0 ∨ checkV l m c u ≠ 0
    · rw [holds_bad hbad] at h; cases h
    · exact ⟨Decidable.not_not.1 (fun e => hbad (Or.inl e)), Decidable.not_not.1 (fun e => hbad (Or.inr e))⟩
  obtain ⟨e1, e2⟩ := ok _ _ _ _ _ _ _ _ _ h1
  obtain ⟨_, e3⟩ := ok _ _ _ _ _ _ _ _ _ h2
  have o1b : 1 ≤ o1 ∧ o1 ≤ 6 ∧ o1 ≠ 2 := by omega
  have o2b : 1 ≤ o2 ∧ o2 ≤ 6 ∧ o2 ≠ 2 := by omega
  have kc := cmpI_le (keyV k n b) (keyV l m c) (keyV j i d)
  have tc := cmpT_le t u v
  rcases holds_ways e1 e2 with ⟨_, _, W⟩ | ⟨_, _, _, W⟩ | ⟨a1, a2, a3, a4, W⟩ | ⟨a1, a2, W⟩ | ⟨a1, a2, W⟩
  · rw [W o1 o1b.1 o1b.2.1] at h1
    exact absurd (of_decide_eq_true h1) o1b.2.2
  · rw [W o1 o1b.1 o1b.2.1] at h1
    exact absurd (of_decide_eq_true h1) o1b.2.2
  · rcases holds_ways e2 e3 with ⟨_, q, W2⟩ | ⟨_, _, q, W2⟩ | ⟨_, b2, _, b4, W2⟩ | ⟨q, _, W2⟩ | ⟨q, _, W2⟩
    · rw [W2 o2 o2b.1 o2b.2.1] at h2
      exact absurd (of_decide_eq_true h2) o2b.2.2
    · rw [W2 o2 o2b.1 o2b.2.1] at h2
      exact absurd (of_decide_eq_true h2) o2b.2.2
    · rcases holds_ways e1 e3 with ⟨_, q, _⟩ | ⟨_, _, q, _⟩ | ⟨_, _, _, _, W3⟩ | ⟨q, _⟩ | ⟨q, _⟩
      · exact absurd ⟨a1, b2⟩ q
      · omega
      · rw [W3 3 (by decide) (by decide), says_lt]
        rw [W o1 o1b.1 o1b.2.1] at h1
        rw [W2 o2 o2b.1 o2b.2.1] at h2
        clear W W2 W3 tc
        generalize cmpI (keyV k n b) (keyV l m c) = x at *
        generalize cmpI (keyV l m c) (keyV j i d) = y at *
        rcases h12 with ⟨rfl, rfl⟩ | ⟨rfl, rfl⟩
        · rw [says_lt] at h1
          rw [says_le] at h2
          exact (kc (by omega) h2).2 (Or.inl h1)
        · rw [says_le] at h1
          rw [says_lt] at h2
          exact (kc h1 (by omega)).2 (Or.inr h2)
      · omega
      · omega
    · omega
    · omega
  · have hn : ¬ o1 ≤ 2 := by omega
    rw [W o1 o1b.1 o1b.2.1, decide_eq_false hn] at h1
    cases h1
  · rcases holds_ways e2 e3 with ⟨_, q, W2⟩ | ⟨q, _, _, W2⟩ | ⟨q, _, _, _, W2⟩ | ⟨q, _, W2⟩ | ⟨_, b2, W2⟩
    · rw [W2 o2 o2b.1 o2b.2.1] at h2
      exact absurd (of_decide_eq_true h2) o2b.2.2
    · omega
    · omega
    · omega
    · rcases holds_ways e1 e3 with ⟨q, _, _⟩ | ⟨q, _⟩ | ⟨q, _⟩ | ⟨q, _⟩ | ⟨_, _, W3⟩
      · omega
      · omega
      · omega
      · omega
      · rw [W3 3 (by decide) (by decide), says_lt]
        rw [W o1 o1b.1 o1b.2.1] at h1
        rw [W2 o2 o2b.1 o2b.2.1] at h2
        clear W W2 W3 kc
        generalize cmpT t u = x at *
        generalize cmpT u v = y at *
        rcases h12 with ⟨rfl, rfl⟩ | ⟨rfl, rfl⟩
        · rw [says_lt] at h1
          rw [says_le] at h2
          exact (tc (by omega) h2).2 (Or.inl h1)
        · rw [says_le] at h1
          rw [says_lt] at h2
          exact (tc h1 (by omega)).2 (Or.inr h2)

set_option maxHeartbeats 2000000 in
theorem chain_equal {k l j : Nat} {n m i : Int} {b c d : Nat} {t u v : ByteArray} (h1 : holdsV 1 k n b t l m c u = true) (h2 : holdsV 1 l m c u j i d v = true) : holdsV 1 k n b t j i d v = true := by
  have ok : ∀ o k n b t l m c u, holdsV o k n b t l m c u = true → checkV k n b t = 0 ∧ checkV l m c u = 0 := by
    intro o k n b t l m c u h
    by_cases hbad : checkV k n b t ≠ 0 ∨ checkV l m c u ≠ 0
    · rw [holds_bad hbad] at h; cases h
    · exact ⟨Decidable.not_not.1 (fun e => hbad (Or.inl e)), Decidable.not_not.1 (fun e => hbad (Or.inr e))⟩
  obtain ⟨e1, e2⟩ := ok _ _ _ _ _ _ _ _ _ h1
  obtain ⟨_, e3⟩ := ok _ _ _ _ _ _ _ _ _ h2
  have o1b : 1 ≤ 1 ∧ 1 ≤ 6 := by decide
  rcases holds_ways e1 e2 with ⟨_, _, W⟩ | ⟨_, _, _, W⟩ | ⟨a1, a2, a3, a4, W⟩ | ⟨a1, a2, W⟩ | ⟨a1, a2, W⟩ <;> rcases holds_ways e2 e3 with ⟨_, q, W2⟩ | ⟨r1, _, q, W2⟩ | ⟨r1, b2, _, b4, W2⟩ | ⟨r1, b2, W2⟩ | ⟨r1, b2, W2⟩
  all_goals rw [W 1 (by decide) (by decide)] at h1
  all_goals rw [W2 1 (by decide) (by decide)] at h2
  all_goals first | (exact absurd (of_decide_eq_true h1) (by decide)) | (exact absurd (of_decide_eq_true h2) (by decide)) | (exfalso; omega) | skip
  · rcases holds_ways e1 e3 with ⟨_, q, _⟩ | ⟨_, _, q, _⟩ | ⟨_, _, _, _, W3⟩ | ⟨q, _⟩ | ⟨q, _⟩
    · exact absurd ⟨a1, b2⟩ q
    · omega
    · rw [W3 1 (by decide) (by decide), says_iff]
      rw [says_iff] at h1 h2
      have z1 := (cmpI_zero (keyV k n b) (keyV l m c)).1 (by omega)
      have z2 := (cmpI_zero (keyV l m c) (keyV j i d)).1 (by omega)
      have z3 := (cmpI_zero (keyV k n b) (keyV j i d)).2 (z1.trans z2)
      omega
    · omega
    · omega
  · rcases holds_ways e1 e3 with ⟨q, _, _⟩ | ⟨q, _⟩ | ⟨q, _⟩ | ⟨_, _, W3⟩ | ⟨q, _⟩
    · omega
    · omega
    · omega
    · rw [W3 1 (by decide) (by decide), Bool.and_eq_true, says_iff]
      rw [Bool.and_eq_true, says_iff] at h1 h2
      have z1 := (cmpI_zero n m).1 (by omega)
      have z2 := (cmpI_zero m i).1 (by omega)
      have z3 := (cmpI_zero n i).2 (z1.trans z2)
      exact ⟨rfl, by omega⟩
    · omega
  · rcases holds_ways e1 e3 with ⟨q, _, _⟩ | ⟨q, _⟩ | ⟨q, _⟩ | ⟨q, _⟩ | ⟨_, _, W3⟩
    · omega
    · omega
    · omega
    · omega
    · rw [W3 1 (by decide) (by decide), says_iff]
      rw [says_iff] at h1 h2
      have z1 := (cmpT_zero t u).1 (by omega)
      have z2 := (cmpT_zero u v).1 (by omega)
      have z3 := (cmpT_zero t v).2 (z1.trans z2)
      omega


end Go.Proofs.Ytaahaehgdamkdaa
