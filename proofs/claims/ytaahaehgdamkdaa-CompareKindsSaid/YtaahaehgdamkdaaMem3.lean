/- More words for memory: a part of a slice, a list of numbers behind a slice, one cell of it. Conditions: none. -/
import Derived.Test.YtaahaehgdamkdaaMem
namespace Go.Proofs.Ytaahaehgdamkdaa
open Go Go.RowKit

theorem ba_eq {a b : ByteArray} (h : a.data.toList = b.data.toList) : a = b := by
  cases a
  cases b
  congr 1
  exact Array.toList_inj.1 h

end Go.Proofs.Ytaahaehgdamkdaa
