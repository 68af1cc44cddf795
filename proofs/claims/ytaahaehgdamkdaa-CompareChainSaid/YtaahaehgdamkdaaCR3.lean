/- The document's bits and stand, by their contracts. Conditions: numbers within their kinds. -/
import Derived.Test.YtaahaehgdamkdaaCR2
import Derived.Test.YtaahaehgdamkdaaBase
import Derived.Test.YtaahaehgdamkdaaRR5
import Derived.Deep.CutRange
namespace Go.Proofs.Ytaahaehgdamkdaa
open Go Go.RowKit

def SaysB5 (w : World) (t : Int × Bool) (e : Ending) (w' : World) : Prop := e = .returned (.tuple #[.int .i64 t.1, .bool t.2]) ∧ Ext w w'
theorem SaysB5.mk {w w' : World} {t : Int × Bool} {x : Int} {b : Bool} (h : t = (x, b)) (hx : Ext w w') : SaysB5 w t (.returned (.tuple #[.int .i64 x, .bool b])) w' := by
  subst h
  exact ⟨rfl, hx⟩

theorem stand_ir (n : Int) (b : Nat) (t : ByteArray) (m : Int) (c : Nat) (u : ByteArray) : standV 1 n b t 3 m c u = versusZ n c := rfl
theorem stand_ri (n : Int) (b : Nat) (t : ByteArray) (m : Int) (c : Nat) (u : ByteArray) : standV 3 n b t 1 m c u = (-(versusZ m b).1, (versusZ m b).2) := rfl
theorem stand_rr {l : Nat} (hl : l ≠ 1) (n : Int) (b : Nat) (t : ByteArray) (m : Int) (c : Nat) (u : ByteArray) : standV 3 n b t l m c u = if lessZ b c then (-1, true) else if lessZ c b then (1, true) else (0, equalZ b c) := by
  unfold standV
  rw [if_neg (by omega), if_neg (by omega), if_pos rfl]
theorem stand_rank {k l : Nat} (hk : k ≠ 3) (h : ¬ (k = 1 ∧ l = 3)) (n : Int) (b : Nat) (t : ByteArray) (m : Int) (c : Nat) (u : ByteArray) : standV k n b t l m c u = (rankV k n b t l m c u, true) := by
  unfold standV
  rw [if_neg h, if_neg (by omega), if_neg hk]

theorem versus_le (n : Int) (b : Nat) : -1 ≤ (versusZ n b).1 ∧ (versusZ n b).1 ≤ 1 := by
  by_cases h : n < -4611686018427387904 ∨ 4611686018427387904 < n
  · rw [versus_out (Or.inr h)]
    omega
  · exact (versus_told (by omega) (by omega)).2

end Go.Proofs.Ytaahaehgdamkdaa
