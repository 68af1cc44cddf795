/- Doubles that are whole, and whole numbers held against doubles. Plain; conditions: none. -/
import Derived.Test.YtaahaehgdamkdaaRRnd
namespace Go.Proofs.Ytaahaehgdamkdaa
open Go

/-- the least double goes so often into 1 -/
def Qz : Nat := 2 ^ q74
theorem Q_pos : 0 < Qz := Nat.pow_pos (by decide)
theorem Q_split {e : Nat} (he : 1 ≤ e) (h : e ≤ 1075) : Qz = 2 ^ (e - 1) * 2 ^ (1075 - e) := by
  unfold Qz
  rw [← Nat.pow_add]
  exact congrArg (fun k => 2 ^ k) (by unfold q74; omega)
theorem Q_more {e : Nat} (h : 1075 ≤ e) : 2 ^ (e - 1) = Qz * 2 ^ (e - 1075) := by
  unfold Qz
  rw [← Nat.pow_add]
  exact congrArg (fun k => 2 ^ k) (by unfold q74; omega)
def signI (s : Bool) (k : Nat) : Int := if s then -(k : Int) else (k : Int)
/-- how two stand -/
def cmpI (x y : Int) : Int := if x < y then -1 else if x = y then 0 else 1
theorem cmp_lt {x y : Int} (h : x < y) : cmpI x y = -1 := if_pos h
theorem cmp_eq {x y : Int} (h : x = y) : cmpI x y = 0 := by unfold cmpI; rw [if_neg (by omega), if_pos h]
theorem cmp_gt {x y : Int} (h : y < x) : cmpI x y = 1 := by unfold cmpI; rw [if_neg (by omega), if_neg (by omega)]
/-- a whole number against a double -/
def versusZ (n : Int) (u : Nat) : Int × Bool :=
  if kindZ u = 5 ∨ n < -4611686018427387904 ∨ 4611686018427387904 < n then (0, false)
  else if kindZ u = 4 then (if sgZ u then 1 else -1, true)
  else (cmpI (n * (Qz : Int)) (svalZ u), true)

theorem versus_out {n : Int} {u : Nat} (h : kindZ u = 5 ∨ n < -4611686018427387904 ∨ 4611686018427387904 < n) : versusZ n u = (0, false) := if_pos h
theorem versus_inf {n : Int} {u : Nat} (h : ¬ (kindZ u = 5 ∨ n < -4611686018427387904 ∨ 4611686018427387904 < n)) (h4 : kindZ u = 4) : versusZ n u = (if sgZ u then 1 else -1, true) := by
  unfold versusZ; rw [if_neg h, if_pos h4]
theorem versus_fin {n : Int} {u : Nat} (h : ¬ (kindZ u = 5 ∨ n < -4611686018427387904 ∨ 4611686018427387904 < n)) (h4 : kindZ u ≠ 4) : versusZ n u = (cmpI (n * (Qz : Int)) (svalZ u), true) := by
  unfold versusZ; rw [if_neg h, if_neg h4]
theorem cmp_bound (x y : Int) : -1 ≤ cmpI x y ∧ cmpI x y ≤ 1 := by unfold cmpI; (repeat' split) <;> omega

end Go.Proofs.Ytaahaehgdamkdaa
