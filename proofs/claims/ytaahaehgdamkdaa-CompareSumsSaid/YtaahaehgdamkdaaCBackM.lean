/- Sums and differences of values undo each other. Plain; conditions: none. -/
import Derived.Test.YtaahaehgdamkdaaCOrd
import Derived.Test.YtaahaehgdamkdaaBase
import Derived.Test.YtaahaehgdamkdaaVR5
namespace Go.Proofs.Ytaahaehgdamkdaa
open Go Go.RowKit

theorem num_not (k : Nat) : numK k = false ↔ ¬ (k = 1 ∨ k = 3) := decide_eq_false_iff_not

theorem plus_cases (k : Nat) (n : Int) (b : Nat) (t : ByteArray) (l : Nat) (m : Int) (c : Nat) (u : ByteArray) :
    (plusV k n b t l m c u = (VZ.none, false) ∧ (checkV k n b t ≠ 0 ∨ checkV l m c u ≠ 0 ∨ numK k = false ∨ numK l = false ∨ (k = 1 ∧ l = 1 ∧ ¬ (-4611686018427387904 ≤ n + m ∧ n + m ≤ 4611686018427387904)))) ∨
    (checkV k n b t = 0 ∧ checkV l m c u = 0 ∧ (k = 1 ∨ k = 3) ∧ (l = 1 ∨ l = 3) ∧ (k = 3 ∨ l = 3) ∧ plusV k n b t l m c u = (ofRealV (addZ (bitsV k n b) (bitsV l m c)), true)) ∨
    (checkV k n b t = 0 ∧ checkV l m c u = 0 ∧ k = 1 ∧ l = 1 ∧ -4611686018427387904 ≤ n + m ∧ n + m ≤ 4611686018427387904 ∧ plusV k n b t l m c u = (⟨1, n + m, 0, noText⟩, true)) := by
  by_cases h : checkV k n b t ≠ 0 ∨ checkV l m c u ≠ 0 ∨ numK k = false ∨ numK l = false
  · left
    refine ⟨if_pos h, ?_⟩
    rcases h with h | h | h | h
    · exact Or.inl h
    · exact Or.inr (Or.inl h)
    · exact Or.inr (Or.inr (Or.inl h))
    · exact Or.inr (Or.inr (Or.inr (Or.inl h)))
  · have hc1 : checkV k n b t = 0 := Decidable.not_not.1 (fun e => h (Or.inl e))
    have hc2 : checkV l m c u = 0 := Decidable.not_not.1 (fun e => h (Or.inr (Or.inl e)))
    have hk : k = 1 ∨ k = 3 := Decidable.not_not.1 (fun e => h (Or.inr (Or.inr (Or.inl ((num_not k).2 e)))))
    have hl : l = 1 ∨ l = 3 := Decidable.not_not.1 (fun e => h (Or.inr (Or.inr (Or.inr ((num_not l).2 e)))))
    by_cases h3 : k = 3 ∨ l = 3
    · right; left
      refine ⟨hc1, hc2, hk, hl, h3, ?_⟩
      unfold plusV
      rw [if_neg h, if_pos h3]
    · have hk1 : k = 1 := by omega
      have hl1 : l = 1 := by omega
      by_cases hr : -4611686018427387904 ≤ n + m ∧ n + m ≤ 4611686018427387904
      · right; right
        refine ⟨hc1, hc2, hk1, hl1, hr.1, hr.2, ?_⟩
        unfold plusV
        rw [if_neg h, if_neg h3, if_pos hr]
      · left
        refine ⟨?_, Or.inr (Or.inr (Or.inr (Or.inr ⟨hk1, hl1, hr⟩)))⟩
        unfold plusV
        rw [if_neg h, if_neg h3, if_neg hr]

theorem neg_may {m : Int} {c : Nat} {u : ByteArray} (h : checkV 1 m c u = 0) : checkV 1 (-m) c u = 0 := by
  have p := check_parts h
  rw [check_int] at h ⊢
  (repeat' split at h) <;> first | (rw [if_neg (by omega), if_neg (by assumption)]; done) | cases h

end Go.Proofs.Ytaahaehgdamkdaa
