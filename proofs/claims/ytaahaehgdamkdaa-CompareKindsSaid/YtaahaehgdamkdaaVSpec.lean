/- Values: what the document tells of them. Plain; conditions: none. -/
import Derived.Test.YtaahaehgdamkdaaMem3
import Derived.Test.YtaahaehgdamkdaaSay
import Derived.Test.YtaahaehgdamkdaaZC3
import Derived.Test.YtaahaehgdamkdaaROrd
import Derived.Test.YtaahaehgdamkdaaRWh
namespace Go.Proofs.Ytaahaehgdamkdaa
open Go Go.RowKit

/-- a value: its kind, number, bits, text -/
structure VZ where
  k : Nat
  n : Int
  b : Nat
  t : ByteArray
def vv (k : Nat) (n : Int) (b : Nat) (t : ByteArray) : Value := .agg #[.int .u8 (k : Int), .int .i64 n, .int .u64 (b : Int), .string t]
def VZ.v (x : VZ) : Value := vv x.k x.n x.b x.t
def noText : ByteArray := ⟨#[]⟩
def VZ.none : VZ := ⟨0, 0, 0, noText⟩
/-- whether a value may be -/
def checkV (k : Nat) (n : Int) (b : Nat) (t : ByteArray) : Int :=
  if k < 1 ∨ 4 < k then 11
  else if (k = 1 ∧ (n < -4611686018427387904 ∨ 4611686018427387904 < n)) ∨ (k = 2 ∧ (n < 0 ∨ 1 < n)) then 8
  else if k = 3 ∧ cleanZ b ≠ b then 4
  else if k = 4 ∧ 24 < t.size then 5
  else if (2 < k ∧ n ≠ 0) ∨ (k ≠ 3 ∧ b ≠ 0) ∨ (k ≠ 4 ∧ t.size ≠ 0) then 2
  else 0
theorem check_kind {k : Nat} {n : Int} {b : Nat} {t : ByteArray} (h : k < 1 ∨ 4 < k) : checkV k n b t = 11 := if_pos h
theorem check_int {n : Int} {b : Nat} {t : ByteArray} : checkV 1 n b t = if n < -4611686018427387904 ∨ 4611686018427387904 < n then 8 else if b ≠ 0 ∨ t.size ≠ 0 then 2 else 0 := by
  unfold checkV
  by_cases h1 : n < -4611686018427387904 ∨ 4611686018427387904 < n
  · rw [if_neg (by omega), if_pos (by omega), if_pos h1]
  · rw [if_neg (by omega), if_neg (by omega), if_neg (by omega), if_neg (by omega), if_neg h1]
    by_cases h2 : b ≠ 0 ∨ t.size ≠ 0
    · rw [if_pos h2, if_pos (by omega)]
    · rw [if_neg h2, if_neg (by omega)]
theorem check_flag {n : Int} {b : Nat} {t : ByteArray} : checkV 2 n b t = if n < 0 ∨ 1 < n then 8 else if b ≠ 0 ∨ t.size ≠ 0 then 2 else 0 := by
  unfold checkV
  by_cases h1 : n < 0 ∨ 1 < n
  · rw [if_neg (by omega), if_pos (by omega), if_pos h1]
  · rw [if_neg (by omega), if_neg (by omega), if_neg (by omega), if_neg (by omega), if_neg h1]
    by_cases h2 : b ≠ 0 ∨ t.size ≠ 0
    · rw [if_pos h2, if_pos (by omega)]
    · rw [if_neg h2, if_neg (by omega)]
theorem check_real {n : Int} {b : Nat} {t : ByteArray} : checkV 3 n b t = if cleanZ b ≠ b then 4 else if n ≠ 0 ∨ t.size ≠ 0 then 2 else 0 := by
  unfold checkV
  generalize cleanZ b = c
  by_cases h1 : c ≠ b
  · rw [if_neg (by omega), if_neg (by omega), if_pos (by omega), if_pos h1]
  · rw [if_neg (by omega), if_neg (by omega), if_neg (by omega), if_neg (by omega), if_neg h1]
    by_cases h2 : n ≠ 0 ∨ t.size ≠ 0
    · rw [if_pos h2, if_pos (by omega)]
    · rw [if_neg h2, if_neg (by omega)]
theorem check_text {n : Int} {b : Nat} {t : ByteArray} : checkV 4 n b t = if 24 < t.size then 5 else if n ≠ 0 ∨ b ≠ 0 then 2 else 0 := by
  unfold checkV
  by_cases h1 : 24 < t.size
  · rw [if_neg (by omega), if_neg (by omega), if_neg (by omega), if_pos (by omega), if_pos h1]
  · rw [if_neg (by omega), if_neg (by omega), if_neg (by omega), if_neg (by omega), if_neg h1]
    by_cases h2 : n ≠ 0 ∨ b ≠ 0
    · rw [if_pos h2, if_pos (by omega)]
    · rw [if_neg h2, if_neg (by omega)]

/-- the order of texts: -1, 0, 1 -/
def cmpT (s t : ByteArray) : Int := if Op.bytesLess s.toList t.toList then -1 else if Op.bytesLess t.toList s.toList then 1 else 0
/-- how two values stand -/
def rankV (k : Nat) (n : Int) (b : Nat) (t : ByteArray) (l : Nat) (m : Int) (c : Nat) (u : ByteArray) : Int :=
  if k ≠ l then (if k < l then -1 else 1)
  else if k = 1 ∨ k = 2 then cmpI n m
  else if k = 3 then cmpI (rankZ b : Int) (rankZ c : Int)
  else if k = 4 then cmpT t u
  else 0

def ofIntV (n : Int) : VZ := ⟨1, max (-4611686018427387904) (min 4611686018427387904 n), 0, noText⟩
def ofFlagV (is : Bool) : VZ := ⟨2, if is then 1 else 0, 0, noText⟩
def ofRealV (b : Nat) : VZ := ⟨3, 0, cleanZ b, noText⟩
def ofTextV (s : ByteArray) : VZ := ⟨4, 0, 0, s.extract 0 (min s.size 24)⟩

end Go.Proofs.Ytaahaehgdamkdaa
