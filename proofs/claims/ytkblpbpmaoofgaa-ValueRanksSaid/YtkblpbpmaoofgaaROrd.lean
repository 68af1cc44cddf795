/- Doubles: their order, the model's and the ranks', and what whole numbers are as doubles. Plain; conditions: none. -/
import Derived.Test.YtkblpbpmaoofgaaRSpec
namespace Go.Proofs.Ytkblpbpmaoofgaa
open Go

/-- worth and rung stand alike -/
theorem sval_lt_iff (a b : Nat) : svalZ a < svalZ b ↔ srkZ a < srkZ b := by
  unfold svalZ srkZ valZ
  have h1 := @worth_lt_iff (rungZ a) (rungZ b)
  have h2 := @worth_lt_iff (rungZ b) (rungZ a)
  have za : worthR (rungZ a) = 0 ↔ rungZ a = 0 := by
    constructor
    · intro h
      rcases Nat.eq_zero_or_pos (rungZ a) with h0 | h0
      · exact h0
      · have := worth_mono h0; omega
    · intro h; rw [h]; decide
  have zb : worthR (rungZ b) = 0 ↔ rungZ b = 0 := by
    constructor
    · intro h
      rcases Nat.eq_zero_or_pos (rungZ b) with h0 | h0
      · exact h0
      · have := worth_mono h0; omega
    · intro h; rw [h]; decide
  generalize worthR (rungZ a) = A at *
  generalize worthR (rungZ b) = B at *
  cases sgZ a <;> cases sgZ b <;> simp only [if_true, if_false, Bool.false_eq_true] <;> omega
theorem sval_eq_iff (a b : Nat) : svalZ a = svalZ b ↔ srkZ a = srkZ b := by
  have h1 := sval_lt_iff a b
  have h2 := sval_lt_iff b a
  omega

/-! ### ranks, signs -/
theorem rank_nan {u : Nat} (h : kindZ u = 5) : rankZ u = 18444492273895866368 := by
  unfold rankZ cleanZ
  rw [if_pos h]
  decide
/-! ### with the other sign -/
end Go.Proofs.Ytkblpbpmaoofgaa
