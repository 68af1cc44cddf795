/- Sums and differences of values undo each other. Plain; conditions: none. -/
import Derived.Test.YtaahaehgdamkdaaCOrd
import Derived.Test.YtaahaehgdamkdaaBase
import Derived.Test.YtaahaehgdamkdaaVR5
namespace Go.Proofs.Ytaahaehgdamkdaa
open Go Go.RowKit

theorem neg_may {m : Int} {c : Nat} {u : ByteArray} (h : checkV 1 m c u = 0) : checkV 1 (-m) c u = 0 := by
  have p := check_parts h
  rw [check_int] at h ⊢
  (repeat' split at h) <;> first | (rw [if_neg (by omega), if_neg (by assumption)]; done) | cases h

end Go.Proofs.Ytaahaehgdamkdaa
