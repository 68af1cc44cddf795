/- The landed program's Take of a value, by its contract. Conditions: the reach of a string. -/
import Derived.Test.YtaahaehgdamkdaaVV5
import Derived.BigQuiet
namespace Go.Proofs.Ytaahaehgdamkdaa
open Go Go.RowKit

theorem vcheck_free (k : Nat) (n : Int) (b : Nat) (t : ByteArray) (w : World) (hb : b ≤ 18446744073709551615) (ht : t.size ≤ 9223372036854775807) : Calls Try.prog 25 #[vv k n b t] w (Says w (.int .i64 (checkV k n b t))) := by
  by_cases h : k < 1 ∨ 4 < k
  · exact vcheck_none k n b t w h
  · have : k = 1 ∨ k = 2 ∨ k = 3 ∨ k = 4 := by omega
    rcases this with rfl | rfl | rfl | rfl
    · exact vcheck_whole n b t w
    · exact vcheck_flag n b t w
    · exact vcheck_double n b t w hb
    · exact vcheck_text n b t w ht

end Go.Proofs.Ytaahaehgdamkdaa
