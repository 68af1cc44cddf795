/- Rounding with three bits behind and one that stands for all below. Plain arithmetic; conditions: none. -/
import Derived.Test.YtmgcikjpgbhpgaaROrd
namespace Go.Proofs.Ytmgcikjpgbhpgaa
open Go

/-- one step down -/
def d1 (m : Nat) : Nat := m / 2 + m % 2 - m / 2 % 2 * (m % 2)
/-! ### a double's parts -/
def scaleZ (u : Nat) : Nat := max 1 (exZ u)
def manZ (u : Nat) : Nat := if exZ u = 0 then frZ u else 4503599627370496 + frZ u
theorem scale_pos (u : Nat) : 1 ≤ scaleZ u := Nat.le_max_left _ _
theorem man_lt (u : Nat) : manZ u < 9007199254740992 := by have := fr_lt u; unfold manZ; split <;> omega
theorem val_parts (u : Nat) : valZ u = manZ u * 2 ^ (scaleZ u - 1) := by
  have hf := fr_lt u
  have hr := @rung_parts u
  unfold valZ manZ scaleZ
  by_cases h : exZ u = 0
  · rw [h] at hr
    rw [worth_low (by omega), if_pos h, h, hr]
    simp
  · rw [worth_high (by omega), if_neg h]
    have e1 : rungZ u % 4503599627370496 = frZ u := by omega
    have e2 : rungZ u / 4503599627370496 = exZ u := by omega
    rw [e1, e2, Nat.max_eq_right (by omega)]

/-! ### the sum, as the document reckons it -/
theorem sum_comm (a b : Nat) : sumZ a b = sumZ b a := by
  unfold sumZ sumS
  rw [Int.add_comm, Bool.and_comm]
theorem nanSum_comm (a b : Nat) : nanSum a b ↔ nanSum b a := by unfold nanSum; omega
theorem add_comm' (a b : Nat) : addZ a b = addZ b a := by
  have h := nanSum_comm a b
  unfold addZ
  by_cases hn : nanSum a b
  · rw [if_pos hn, if_pos (h.1 hn)]
  · rw [if_neg hn, if_neg (fun e => hn (h.2 e)), sum_comm]
    unfold nanSum at hn
    split <;> split <;> first | rfl | omega

theorem rd_zero : rdZ false 0 = 0 := by
  unfold rdZ wordZ
  rw [rnd_small (by omega), if_neg (by decide)]
  exact Nat.zero_min _
theorem sum_none {a b : Nat} (h : sgZ a ≠ sgZ b) (hv : valZ a = valZ b) : sumZ a b = 0 := by
  have hs : svalZ a + svalZ b = 0 := by
    unfold svalZ
    rw [hv]
    revert h
    cases sgZ a <;> cases sgZ b <;> intro h <;> first | exact absurd rfl h | (simp only [if_true, if_false, Bool.false_eq_true]; omega)
  unfold sumZ sumS
  rw [hs, if_pos rfl]
  have : (sgZ a && sgZ b) = false := by
    revert h
    cases sgZ a <;> cases sgZ b <;> intro h <;> first | rfl | exact absurd rfl h
  rw [this]
  exact rd_zero
end Go.Proofs.Ytmgcikjpgbhpgaa
