/- The document's number, Fits, Sum, Sign, by their contracts. Conditions: numbers within their kinds. -/
import Derived.Test.YtaahaehgdamkdaaBase
import Derived.Test.YtaahaehgdamkdaaVR1
import Derived.BigQuiet
namespace Go.Proofs.Ytaahaehgdamkdaa
open Go Go.RowKit

theorem rnumber_any (k : Nat) (w : World) : Calls Try.prog 35 #[.int .u8 (k : Int)] w (Just w (.bool (numK k))) := by
  by_cases h1 : k = 1
  · subst h1
    go_enter Try.func35, Try.ntmps35
    go_wp2
    go_ret
    exact Just.mk_bool rfl
  · have h1' : ((k : Int) == 1) = false := beq_eq_false_iff_ne.2 (by omega)
    by_cases h3 : k = 3
    · subst h3
      go_enter Try.func35, Try.ntmps35
      go_wp2
      go_ret
      exact Just.mk_bool rfl
    · have h3' : ((k : Int) == 3) = false := beq_eq_false_iff_ne.2 (by omega)
      have hr : numK k = false := decide_eq_false (by omega)
      rw [hr]
      clear h1 h3 hr
      go_enter Try.func35, Try.ntmps35
      go_wp2
      go_ret
      exact Just.mk_bool rfl

theorem num_cases (k : Nat) : (numK k = true ∧ (k = 1 ∨ k = 3)) ∨ (numK k = false ∧ k ≠ 1 ∧ k ≠ 3) := by
  unfold numK
  by_cases h : k = 1 ∨ k = 3
  · exact Or.inl ⟨decide_eq_true h, h⟩
  · exact Or.inr ⟨decide_eq_false h, by omega, by omega⟩

end Go.Proofs.Ytaahaehgdamkdaa
