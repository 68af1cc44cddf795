/- How values stand to each other, and what tests say of it. Plain; conditions: none. -/
import Derived.Test.YtaahaehgdamkdaaBase
import Derived.Test.YtaahaehgdamkdaaVR1
namespace Go.Proofs.Ytaahaehgdamkdaa
open Go Go.RowKit

theorem check_parts {k : Nat} {n : Int} {b : Nat} {t : ByteArray} (h : checkV k n b t = 0) :
    (k = 1 ∧ -4611686018427387904 ≤ n ∧ n ≤ 4611686018427387904 ∧ b = 0 ∧ t = noText) ∨ (k = 2 ∧ 0 ≤ n ∧ n ≤ 1 ∧ b = 0 ∧ t = noText) ∨ (k = 3 ∧ n = 0 ∧ cleanZ b = b ∧ t = noText) ∨ (k = 4 ∧ n = 0 ∧ b = 0 ∧ t.size ≤ 24) := by
  have ht : t = noText ↔ t.size = 0 := text_none t
  by_cases h0 : k < 1 ∨ 4 < k
  · rw [check_kind h0] at h; cases h
  · have : k = 1 ∨ k = 2 ∨ k = 3 ∨ k = 4 := by omega
    rcases this with rfl | rfl | rfl | rfl
    · rw [check_int] at h
      (repeat' split at h) <;> first | (left; rw [ht]; omega) | cases h
    · rw [check_flag] at h
      (repeat' split at h) <;> first | (right; left; rw [ht]; omega) | cases h
    · rw [check_real] at h
      generalize cleanZ b = c at *
      (repeat' split at h) <;> first | (right; right; left; rw [ht]; omega) | cases h
    · rw [check_text] at h
      (repeat' split at h) <;> first | (right; right; right; omega) | cases h

end Go.Proofs.Ytaahaehgdamkdaa
