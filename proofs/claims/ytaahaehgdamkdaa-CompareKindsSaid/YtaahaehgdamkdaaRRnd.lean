/- Rounding with three bits behind and one that stands for all below. Plain arithmetic; conditions: none. -/
import Derived.Test.YtaahaehgdamkdaaROrd
namespace Go.Proofs.Ytaahaehgdamkdaa
open Go

/-- one step down -/
def d1 (m : Nat) : Nat := m / 2 + m % 2 - m / 2 % 2 * (m % 2)
/-! ### a double's parts -/
def scaleZ (u : Nat) : Nat := max 1 (exZ u)
def manZ (u : Nat) : Nat := if exZ u = 0 then frZ u else 4503599627370496 + frZ u
theorem scale_pos (u : Nat) : 1 ≤ scaleZ u := Nat.le_max_left _ _
theorem man_lt (u : Nat) : manZ u < 9007199254740992 := by have := fr_lt u; unfold manZ; split <;> omega
theorem val_parts (u : Nat) : valZ u = manZ u * 2 ^ (scaleZ u - 1) := by
  have hf := fr_lt u
  have hr := @rung_parts u
  unfold valZ manZ scaleZ
  by_cases h : exZ u = 0
  · rw [h] at hr
    rw [worth_low (by omega), if_pos h, h, hr]
    simp
  · rw [worth_high (by omega), if_neg h]
    have e1 : rungZ u % 4503599627370496 = frZ u := by omega
    have e2 : rungZ u / 4503599627370496 = exZ u := by omega
    rw [e1, e2, Nat.max_eq_right (by omega)]

/-! ### the sum, as the document reckons it -/
end Go.Proofs.Ytaahaehgdamkdaa
