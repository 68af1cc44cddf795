/- Doubles that are whole, and whole numbers held against doubles. Plain; conditions: none. -/
import Derived.Test.YtmgcikjpgbhpgaaRRnd
namespace Go.Proofs.Ytmgcikjpgbhpgaa
open Go

/-- the least double goes so often into 1 -/
def Qz : Nat := 2 ^ q74
theorem Q_pos : 0 < Qz := Nat.pow_pos (by decide)
theorem Q_split {e : Nat} (he : 1 ≤ e) (h : e ≤ 1075) : Qz = 2 ^ (e - 1) * 2 ^ (1075 - e) := by
  unfold Qz
  rw [← Nat.pow_add]
  exact congrArg (fun k => 2 ^ k) (by unfold q74; omega)
theorem Q_more {e : Nat} (h : 1075 ≤ e) : 2 ^ (e - 1) = Qz * 2 ^ (e - 1075) := by
  unfold Qz
  rw [← Nat.pow_add]
  exact congrArg (fun k => 2 ^ k) (by unfold q74; omega)
theorem intZ_Q (n : Int) : intZ n = rdZ (decide (n < 0)) (n.natAbs * Qz) := rfl

def signI (s : Bool) (k : Nat) : Int := if s then -(k : Int) else (k : Int)
/-- the whole number that it is -/
def wholeZ (u : Nat) : Int × Bool := if exZ u ≠ 2047 ∧ valZ u % Qz = 0 ∧ valZ u / Qz ≤ 4611686018427387904 then (signI (sgZ u) (valZ u / Qz), true) else (0, false)

theorem whole_inf {u : Nat} (h : exZ u = 2047) : wholeZ u = (0, false) := by unfold wholeZ; rw [if_neg (by omega)]
theorem whole_is {u m : Nat} (hx : exZ u ≠ 2047) (hm : m ≤ 4611686018427387904) (hv : valZ u = m * Qz) : wholeZ u = (signI (sgZ u) m, true) := by
  unfold wholeZ
  rw [hv, Nat.mul_mod_left, Nat.mul_div_cancel _ Q_pos, if_pos ⟨hx, rfl, hm⟩]

/-- how two stand -/
def cmpI (x y : Int) : Int := if x < y then -1 else if x = y then 0 else 1
theorem cmp_lt {x y : Int} (h : x < y) : cmpI x y = -1 := if_pos h
theorem cmp_eq {x y : Int} (h : x = y) : cmpI x y = 0 := by unfold cmpI; rw [if_neg (by omega), if_pos h]
theorem cmp_gt {x y : Int} (h : y < x) : cmpI x y = 1 := by unfold cmpI; rw [if_neg (by omega), if_neg (by omega)]
/-- a whole number against a double -/
def versusZ (n : Int) (u : Nat) : Int × Bool :=
  if kindZ u = 5 ∨ n < -4611686018427387904 ∨ 4611686018427387904 < n then (0, false)
  else if kindZ u = 4 then (if sgZ u then 1 else -1, true)
  else (cmpI (n * (Qz : Int)) (svalZ u), true)

theorem versus_out {n : Int} {u : Nat} (h : kindZ u = 5 ∨ n < -4611686018427387904 ∨ 4611686018427387904 < n) : versusZ n u = (0, false) := if_pos h
theorem versus_inf {n : Int} {u : Nat} (h : ¬ (kindZ u = 5 ∨ n < -4611686018427387904 ∨ 4611686018427387904 < n)) (h4 : kindZ u = 4) : versusZ n u = (if sgZ u then 1 else -1, true) := by
  unfold versusZ; rw [if_neg h, if_pos h4]
theorem versus_fin {n : Int} {u : Nat} (h : ¬ (kindZ u = 5 ∨ n < -4611686018427387904 ∨ 4611686018427387904 < n)) (h4 : kindZ u ≠ 4) : versusZ n u = (cmpI (n * (Qz : Int)) (svalZ u), true) := by
  unfold versusZ; rw [if_neg h, if_neg h4]
theorem nQ_neg {n : Int} (h : n < 0) : n * (Qz : Int) < 0 := Int.mul_neg_of_neg_of_pos h (by have := Q_pos; omega)
theorem nQ_pos {n : Int} (h : 0 < n) : 0 < n * (Qz : Int) := Int.mul_pos h (by have := Q_pos; omega)
theorem cmp_bound (x y : Int) : -1 ≤ cmpI x y ∧ cmpI x y ≤ 1 := by unfold cmpI; (repeat' split) <;> omega

end Go.Proofs.Ytmgcikjpgbhpgaa
