/- Values held against each other: what the document tells of them. Plain; conditions: none. -/
import Derived.Test.YtaahaehgdamkdaaVOrd
import Derived.Test.YtaahaehgdamkdaaRWh
import Derived.Test.YtaahaehgdamkdaaRLaw2
namespace Go.Proofs.Ytaahaehgdamkdaa
open Go Go.RowKit

def numK (k : Nat) : Bool := decide (k = 1 ∨ k = 3)
/-- how one stands to the other, and whether they are in order -/
def standV (k : Nat) (n : Int) (b : Nat) (t : ByteArray) (l : Nat) (m : Int) (c : Nat) (u : ByteArray) : Int × Bool :=
  if k = 1 ∧ l = 3 then versusZ n c
  else if k = 3 ∧ l = 1 then (-(versusZ m b).1, (versusZ m b).2)
  else if k = 3 then (if lessZ b c then (-1, true) else if lessZ c b then (1, true) else (0, equalZ b c))
  else (rankV k n b t l m c u, true)
/-- what a test says of how two stand -/
def saysV (o : Nat) (x : Int) : Bool := decide ((o = 1 ∧ x = 0) ∨ (o = 2 ∧ x ≠ 0) ∨ (o = 3 ∧ x < 0) ∨ (o = 4 ∧ x ≤ 0) ∨ (o = 5 ∧ 0 < x) ∨ (o = 6 ∧ 0 ≤ x))
def holdsV (o : Nat) (k : Nat) (n : Int) (b : Nat) (t : ByteArray) (l : Nat) (m : Int) (c : Nat) (u : ByteArray) : Bool :=
  if o < 1 ∨ 6 < o ∨ checkV k n b t ≠ 0 ∨ checkV l m c u ≠ 0 then false
  else if k ≠ l ∧ ¬ (numK k = true ∧ numK l = true) then decide (o = 2)
  else if (standV k n b t l m c u).2 = false then decide (o = 2)
  else if k = 2 ∧ 2 < o then false
  else saysV o (standV k n b t l m c u).1
/-- a number as a double -/
def bitsV (k : Nat) (n : Int) (b : Nat) : Nat := if k = 1 then intZ n else b
def plusV (k : Nat) (n : Int) (b : Nat) (t : ByteArray) (l : Nat) (m : Int) (c : Nat) (u : ByteArray) : VZ × Bool :=
  if checkV k n b t ≠ 0 ∨ checkV l m c u ≠ 0 ∨ numK k = false ∨ numK l = false then (VZ.none, false)
  else if k = 3 ∨ l = 3 then (ofRealV (addZ (bitsV k n b) (bitsV l m c)), true)
  else if -4611686018427387904 ≤ n + m ∧ n + m ≤ 4611686018427387904 then (⟨1, n + m, 0, noText⟩, true)
  else (VZ.none, false)
def minusV (k : Nat) (n : Int) (b : Nat) (t : ByteArray) (l : Nat) (m : Int) (c : Nat) (u : ByteArray) : VZ × Bool :=
  if checkV l m c u ≠ 0 then (VZ.none, false)
  else if l = 1 ∧ k = 1 then plusV k n b t l (-m) c u
  else if numK l = false then (VZ.none, false)
  else plusV k n b t 3 0 (negZ (bitsV l m c)) noText
def fitsV (o k l : Nat) : Bool :=
  if o < 1 ∨ 6 < o then false
  else if (numK k = true ∧ numK l = true) ∨ (k = 4 ∧ l = 4) then true
  else decide (k = 2 ∧ l = 2 ∧ o ≤ 2)
def sumK (k l : Nat) : Nat := if numK k = false ∨ numK l = false then 0 else max k l
def signV (o : Nat) : ByteArray :=
  if o = 1 then ⟨#[61]⟩ else if o = 2 then ⟨#[33, 61]⟩ else if o = 3 then ⟨#[60]⟩ else if o = 4 then ⟨#[60, 61]⟩ else if o = 5 then ⟨#[62]⟩ else if o = 6 then ⟨#[62, 61]⟩ else noText
def opV (s : ByteArray) : Nat :=
  if s = signV 1 then 1 else if s = signV 2 then 2 else if s = signV 3 then 3 else if s = signV 4 then 4 else if s = signV 5 then 5 else if s = signV 6 then 6 else 0
end Go.Proofs.Ytaahaehgdamkdaa
