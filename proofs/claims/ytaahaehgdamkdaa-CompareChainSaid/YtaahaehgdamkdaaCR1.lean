/- The document's number, Fits, Sum, Sign, by their contracts. Conditions: numbers within their kinds. -/
import Derived.Test.YtaahaehgdamkdaaBase
import Derived.Test.YtaahaehgdamkdaaVR1
import Derived.BigQuiet
namespace Go.Proofs.Ytaahaehgdamkdaa
open Go Go.RowKit

theorem num_cases (k : Nat) : (numK k = true ∧ (k = 1 ∨ k = 3)) ∨ (numK k = false ∧ k ≠ 1 ∧ k ≠ 3) := by
  unfold numK
  by_cases h : k = 1 ∨ k = 3
  · exact Or.inl ⟨decide_eq_true h, h⟩
  · exact Or.inr ⟨decide_eq_false h, by omega, by omega⟩

end Go.Proofs.Ytaahaehgdamkdaa
