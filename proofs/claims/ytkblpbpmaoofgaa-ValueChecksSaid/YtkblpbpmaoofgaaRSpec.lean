/- Doubles: what the document tells of them, and that the model's sums, order and roundings are these. Plain; conditions: none. -/
import Derived.Test.YtkblpbpmaoofgaaRDig
namespace Go.Proofs.Ytkblpbpmaoofgaa
open Go

def exZ (u : Nat) : Nat := u / 4503599627370496 % 2048
def frZ (u : Nat) : Nat := u % 4503599627370496
def rungZ (u : Nat) : Nat := u % 9223372036854775808
def sgZ (u : Nat) : Bool := decide (9223372036854775808 ≤ u)
def kindZ (u : Nat) : Nat := if exZ u = 2047 ∧ frZ u ≠ 0 then 5 else if exZ u = 2047 then 4 else if exZ u ≠ 0 then 3 else if frZ u ≠ 0 then 2 else 1

theorem rung_parts {u : Nat} : rungZ u = exZ u * 4503599627370496 + frZ u := by unfold rungZ exZ frZ; omega
theorem fr_lt (u : Nat) : frZ u < 4503599627370496 := Nat.mod_lt _ (by decide)
theorem ex_lt (u : Nat) : exZ u < 2048 := Nat.mod_lt _ (by decide)
theorem rung_lt (u : Nat) : rungZ u < 9223372036854775808 := Nat.mod_lt _ (by decide)

theorem kind_nan {u : Nat} : kindZ u = 5 ↔ 9218868437227405312 < rungZ u := by
  have := fr_lt u; have := ex_lt u
  rw [rung_parts]; unfold kindZ
  repeat' split
  all_goals omega
theorem kind_inf {u : Nat} : kindZ u = 4 ↔ rungZ u = 9218868437227405312 := by
  have := fr_lt u; have := ex_lt u
  rw [rung_parts]; unfold kindZ
  repeat' split
  all_goals omega
theorem kind_fin {u : Nat} : kindZ u ≠ 5 ∧ kindZ u ≠ 4 ↔ rungZ u < 9218868437227405312 := by
  have h1 := @kind_nan u; have h2 := @kind_inf u
  omega
theorem kind_zero {u : Nat} : kindZ u = 1 ↔ rungZ u = 0 := by
  have := fr_lt u; have := ex_lt u
  rw [rung_parts]; unfold kindZ
  repeat' split
  all_goals omega

def nanC : Nat := 9221120237041090560
def cleanZ (u : Nat) : Nat := if kindZ u = 5 then nanC else u
def rankZ (u : Nat) : Nat := if 9223372036854775808 ≤ cleanZ u then 18446744073709551615 - cleanZ u else cleanZ u + 9223372036854775808
/-- a rung with its sign -/
def srkZ (u : Nat) : Int := if sgZ u then -(rungZ u : Int) else (rungZ u : Int)
def wordZ (s : Bool) (r : Nat) : Nat := if s then 9223372036854775808 + r else r
def rdZ (s : Bool) (N : Nat) : Nat := wordZ s (min (rnd N) 9218868437227405312)
def valZ (u : Nat) : Nat := worthR (rungZ u)
def svalZ (u : Nat) : Int := if sgZ u then -(valZ u : Int) else (valZ u : Int)
/-- a sum's sign: of none that is left, of both -/
def sumS (a b : Nat) : Bool := if svalZ a + svalZ b = 0 then sgZ a && sgZ b else decide (svalZ a + svalZ b < 0)
def sumZ (a b : Nat) : Nat := rdZ (sumS a b) (svalZ a + svalZ b).natAbs
def nanSum (a b : Nat) : Prop := kindZ a = 5 ∨ kindZ b = 5 ∨ (kindZ a = 4 ∧ kindZ b = 4 ∧ a ≠ b)
instance (a b : Nat) : Decidable (nanSum a b) := by unfold nanSum; infer_instance
def addZ (a b : Nat) : Nat := if nanSum a b then nanC else if kindZ a = 4 then a else if kindZ b = 4 then b else sumZ a b

theorem word_of (u : Nat) (hu : u < 18446744073709551616) : wordZ (sgZ u) (rungZ u) = u := by
  unfold wordZ sgZ rungZ
  by_cases h : 9223372036854775808 ≤ u
  · rw [decide_eq_true h, if_pos rfl]; omega
  · rw [decide_eq_false h, if_neg (by decide)]; omega

/-! ### the model's words -/
end Go.Proofs.Ytkblpbpmaoofgaa
