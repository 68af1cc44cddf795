/- Values: what the document tells of them. Plain; conditions: none. -/
import Derived.Test.YtkblpbpmaoofgaaMem3
import Derived.Test.YtkblpbpmaoofgaaSay
import Derived.Test.YtkblpbpmaoofgaaDig
import Derived.Test.YtkblpbpmaoofgaaZC3
import Derived.Test.YtkblpbpmaoofgaaROrd
import Derived.Test.YtkblpbpmaoofgaaRWh
namespace Go.Proofs.Ytkblpbpmaoofgaa
open Go Go.RowKit

/-- a value: its kind, number, bits, text -/
structure VZ where
  k : Nat
  n : Int
  b : Nat
  t : ByteArray
def vv (k : Nat) (n : Int) (b : Nat) (t : ByteArray) : Value := .agg #[.int .u8 (k : Int), .int .i64 n, .int .u64 (b : Int), .string t]
def VZ.v (x : VZ) : Value := vv x.k x.n x.b x.t
def noText : ByteArray := ⟨#[]⟩
def VZ.none : VZ := ⟨0, 0, 0, noText⟩
/-- whether a value may be -/
def checkV (k : Nat) (n : Int) (b : Nat) (t : ByteArray) : Int :=
  if k < 1 ∨ 4 < k then 11
  else if (k = 1 ∧ (n < -4611686018427387904 ∨ 4611686018427387904 < n)) ∨ (k = 2 ∧ (n < 0 ∨ 1 < n)) then 8
  else if k = 3 ∧ cleanZ b ≠ b then 4
  else if k = 4 ∧ 24 < t.size then 5
  else if (2 < k ∧ n ≠ 0) ∨ (k ≠ 3 ∧ b ≠ 0) ∨ (k ≠ 4 ∧ t.size ≠ 0) then 2
  else 0
theorem check_kind {k : Nat} {n : Int} {b : Nat} {t : ByteArray} (h : k < 1 ∨ 4 < k) : checkV k n b t = 11 := if_pos h
theorem check_int {n : Int} {b : Nat} {t : ByteArray} : checkV 1 n b t = if n < -4611686018427387904 ∨ 4611686018427387904 < n then 8 else if b ≠ 0 ∨ t.size ≠ 0 then 2 else 0 := by
  unfold checkV
  by_cases h1 : n < -4611686018427387904 ∨ 4611686018427387904 < n
  · rw [if_neg (by omega), if_pos (by omega), if_pos h1]
  · rw [if_neg (by omega), if_neg (by omega), if_neg (by omega), if_neg (by omega), if_neg h1]
    by_cases h2 : b ≠ 0 ∨ t.size ≠ 0
    · rw [if_pos h2, if_pos (by omega)]
    · rw [if_neg h2, if_neg (by omega)]
theorem check_flag {n : Int} {b : Nat} {t : ByteArray} : checkV 2 n b t = if n < 0 ∨ 1 < n then 8 else if b ≠ 0 ∨ t.size ≠ 0 then 2 else 0 := by
  unfold checkV
  by_cases h1 : n < 0 ∨ 1 < n
  · rw [if_neg (by omega), if_pos (by omega), if_pos h1]
  · rw [if_neg (by omega), if_neg (by omega), if_neg (by omega), if_neg (by omega), if_neg h1]
    by_cases h2 : b ≠ 0 ∨ t.size ≠ 0
    · rw [if_pos h2, if_pos (by omega)]
    · rw [if_neg h2, if_neg (by omega)]
theorem check_real {n : Int} {b : Nat} {t : ByteArray} : checkV 3 n b t = if cleanZ b ≠ b then 4 else if n ≠ 0 ∨ t.size ≠ 0 then 2 else 0 := by
  unfold checkV
  generalize cleanZ b = c
  by_cases h1 : c ≠ b
  · rw [if_neg (by omega), if_neg (by omega), if_pos (by omega), if_pos h1]
  · rw [if_neg (by omega), if_neg (by omega), if_neg (by omega), if_neg (by omega), if_neg h1]
    by_cases h2 : n ≠ 0 ∨ t.size ≠ 0
    · rw [if_pos h2, if_pos (by omega)]
    · rw [if_neg h2, if_neg (by omega)]
theorem check_text {n : Int} {b : Nat} {t : ByteArray} : checkV 4 n b t = if 24 < t.size then 5 else if n ≠ 0 ∨ b ≠ 0 then 2 else 0 := by
  unfold checkV
  by_cases h1 : 24 < t.size
  · rw [if_neg (by omega), if_neg (by omega), if_neg (by omega), if_pos (by omega), if_pos h1]
  · rw [if_neg (by omega), if_neg (by omega), if_neg (by omega), if_neg (by omega), if_neg h1]
    by_cases h2 : n ≠ 0 ∨ b ≠ 0
    · rw [if_pos h2, if_pos (by omega)]
    · rw [if_neg h2, if_neg (by omega)]

/-- the order of texts: -1, 0, 1 -/
def cmpT (s t : ByteArray) : Int := if Op.bytesLess s.toList t.toList then -1 else if Op.bytesLess t.toList s.toList then 1 else 0
/-- how two values stand -/
def rankV (k : Nat) (n : Int) (b : Nat) (t : ByteArray) (l : Nat) (m : Int) (c : Nat) (u : ByteArray) : Int :=
  if k ≠ l then (if k < l then -1 else 1)
  else if k = 1 ∨ k = 2 then cmpI n m
  else if k = 3 then cmpI (rankZ b : Int) (rankZ c : Int)
  else if k = 4 then cmpT t u
  else 0

/-- a value's bytes -/
def bytesV (k : Nat) (n : Int) (b : Nat) (t : ByteArray) : List UInt8 :=
  UInt8.ofNat k :: (if k = 1 then zb (foldZ n).toNat else if k = 2 then [UInt8.ofNat n.toNat] else if k = 3 then be 8 b else zb t.size ++ t.data.toList)
def putV (l : List UInt8) (k : Nat) (n : Int) (b : Nat) (t : ByteArray) : List UInt8 × Int :=
  if checkV k n b t = 0 then (l ++ bytesV k n b t, 0) else ([], checkV k n b t)

/-- what is read: the value, the place behind it, the error -/
def failV (e : Int) : VZ × Int × Int := (VZ.none, 0, e)
/-- what stands behind a kind, before it is checked -/
def restV (s : ByteArray) (k p : Nat) : VZ × Int × Int :=
  if k = 2 then (if p = s.size then failV 3 else (⟨k, (s.data.toList[p]?.getD 0).toNat, 0, noText⟩, (p : Int) + 1, 0))
  else if k = 3 then (if s.size - p < 8 then failV 3 else (⟨k, 0, worth ((s.data.toList.drop p).take 8), noText⟩, (p : Int) + 8, 0))
  else if (takeZ s p).2.2 ≠ 0 then failV (takeZ s p).2.2
  else if k = 1 then (⟨k, backZ (takeZ s p).1, 0, noText⟩, (takeZ s p).2.1, 0)
  else if 24 < (takeZ s p).1 then failV 5
  else if (s.size : Int) - (takeZ s p).2.1 < (takeZ s p).1 then failV 3
  else (⟨k, 0, 0, s.extract (takeZ s p).2.1.toNat ((takeZ s p).2.1.toNat + (takeZ s p).1)⟩, (takeZ s p).2.1 + (takeZ s p).1, 0)
def checkedV (x : VZ × Int × Int) : VZ × Int × Int :=
  if x.2.2 ≠ 0 then x else if checkV x.1.k x.1.n x.1.b x.1.t ≠ 0 then failV (checkV x.1.k x.1.n x.1.b x.1.t) else x
def takeV (s : ByteArray) (p : Int) : VZ × Int × Int :=
  if p < 0 ∨ s.size < p then failV 2
  else if p = s.size then failV 3
  else if (s.data.toList[p.toNat]?.getD 0).toNat < 1 ∨ 4 < (s.data.toList[p.toNat]?.getD 0).toNat then failV 11
  else checkedV (restV s (s.data.toList[p.toNat]?.getD 0).toNat (p.toNat + 1))

/-- a kind's word -/
def wordV (k : Nat) : ByteArray :=
  if k = 1 then ⟨#[105, 110, 116]⟩ else if k = 2 then ⟨#[102, 108, 97, 103]⟩ else if k = 3 then ⟨#[114, 101, 97, 108]⟩ else if k = 4 then ⟨#[116, 101, 120, 116]⟩ else noText

def ofIntV (n : Int) : VZ := ⟨1, max (-4611686018427387904) (min 4611686018427387904 n), 0, noText⟩
def ofFlagV (is : Bool) : VZ := ⟨2, if is then 1 else 0, 0, noText⟩
def ofRealV (b : Nat) : VZ := ⟨3, 0, cleanZ b, noText⟩
def ofTextV (s : ByteArray) : VZ := ⟨4, 0, 0, s.extract 0 (min s.size 24)⟩

end Go.Proofs.Ytkblpbpmaoofgaa
