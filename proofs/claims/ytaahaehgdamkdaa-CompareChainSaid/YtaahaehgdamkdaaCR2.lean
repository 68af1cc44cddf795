/- The document's Sign and Op, by their contracts. Conditions: none. -/
import Derived.Test.YtaahaehgdamkdaaBase
import Derived.Test.YtaahaehgdamkdaaVR1
import Derived.BigQuiet
namespace Go.Proofs.Ytaahaehgdamkdaa
open Go Go.RowKit

theorem op_at {i : Nat} {s : ByteArray} (h1 : 1 ≤ i) (h6 : i ≤ 6) (h : signV i = s) : opV s = i := by
  subst h
  have : i = 1 ∨ i = 2 ∨ i = 3 ∨ i = 4 ∨ i = 5 ∨ i = 6 := by omega
  rcases this with rfl | rfl | rfl | rfl | rfl | rfl
  all_goals decide
theorem op_none {s : ByteArray} (h : ∀ j, 1 ≤ j → j < 7 → signV j ≠ s) : opV s = 0 := by
  unfold opV
  rw [if_neg (fun e => h 1 (by omega) (by omega) e.symm), if_neg (fun e => h 2 (by omega) (by omega) e.symm), if_neg (fun e => h 3 (by omega) (by omega) e.symm), if_neg (fun e => h 4 (by omega) (by omega) e.symm), if_neg (fun e => h 5 (by omega) (by omega) e.symm), if_neg (fun e => h 6 (by omega) (by omega) e.symm)]

end Go.Proofs.Ytaahaehgdamkdaa
