/- telltalelaw04.Small, by its contract. Conditions: the reach of a string. -/
import Derived.Test.YtggafdimbddflaaVR1
import Derived.Test.YtggafdimbddflaaBase
import Derived.Test.YtggafdimbddflaaVR5
import Derived.Test.YtggafdimbddflaaVV1
import Derived.Test.YtggafdimbddflaaVV2
import Derived.Test.YtggafdimbddflaaVV4
import Derived.BigQuiet
import Derived.Lib.AppendZeros
namespace Go.Proofs.Ytggafdimbddflaa
open Go Go.RowKit

set_option maxHeartbeats 1000000 in
theorem small_any (k : Nat) (n : Int) (b : Nat) (t : ByteArray) (w : World) (ht : t.size ≤ 9223372036854775807) : Calls Try.prog 25 #[.agg #[.int .u8 (k : Int), .int .i64 n, .int .u64 (b : Int), .string t]] w (Says w (.int .i64 (max 0 ((t.size : Int) - 100)))) := by
  rcases Nat.lt_or_ge 100 t.size with h | h
  · rw [show max 0 ((t.size : Int) - 100) = (t.size : Int) - 100 by omega]
    go_enter Try.func25, Try.ntmps25
    go_wp2
    all_goals first | (exfalso; omega) | (go_ret; exact Says.mk_int (by omega) (Ext.alloc _ _))
  · rw [show max 0 ((t.size : Int) - 100) = 0 by omega]
    go_enter Try.func25, Try.ntmps25
    go_wp2
    all_goals first | (exfalso; omega) | (go_ret; exact Says.mk_int (by omega) (Ext.alloc _ _))
end Go.Proofs.Ytggafdimbddflaa
