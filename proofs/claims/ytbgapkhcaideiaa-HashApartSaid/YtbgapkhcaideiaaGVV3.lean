/- Several texts in one: VV3, VV6. Conditions: those of each. -/
import Derived.BigQuiet
import Derived.Lib.UnsafeStr
import Derived.Test.YtbgapkhcaideiaaVV1
import Derived.Test.YtbgapkhcaideiaaBase
import Derived.Test.YtbgapkhcaideiaaVV2
import Derived.Test.YtbgapkhcaideiaaVR5
/- The landed program's Rank, by its contract; how its switch over types goes. Conditions: numbers within their kinds. -/
namespace Go.Proofs.Ytbgapkhcaideiaa
open Go Go.RowKit

theorem as_whole_whole (w : World) : (Instr.typeAssert (.iface 56 (.agg #[])) 52 56 true).run Try.prog w = .ok (.tuple #[.agg #[], .bool true]) w := by kernel_rfl
theorem as_flag_whole (w : World) : (Instr.typeAssert (.iface 58 (.agg #[])) 52 56 true).run Try.prog w = .ok (.tuple #[.agg #[], .bool false]) w := by kernel_rfl
theorem as_flag_flag (w : World) : (Instr.typeAssert (.iface 58 (.agg #[])) 52 58 true).run Try.prog w = .ok (.tuple #[.agg #[], .bool true]) w := by kernel_rfl
theorem as_double_whole (w : World) : (Instr.typeAssert (.iface 59 (.agg #[])) 52 56 true).run Try.prog w = .ok (.tuple #[.agg #[], .bool false]) w := by kernel_rfl
theorem as_double_flag (w : World) : (Instr.typeAssert (.iface 59 (.agg #[])) 52 58 true).run Try.prog w = .ok (.tuple #[.agg #[], .bool false]) w := by kernel_rfl
theorem as_double_double (w : World) : (Instr.typeAssert (.iface 59 (.agg #[])) 52 59 true).run Try.prog w = .ok (.tuple #[.agg #[], .bool true]) w := by kernel_rfl
theorem as_text_whole (w : World) : (Instr.typeAssert (.iface 61 (.agg #[])) 52 56 true).run Try.prog w = .ok (.tuple #[.agg #[], .bool false]) w := by kernel_rfl
theorem as_text_flag (w : World) : (Instr.typeAssert (.iface 61 (.agg #[])) 52 58 true).run Try.prog w = .ok (.tuple #[.agg #[], .bool false]) w := by kernel_rfl
theorem as_text_double (w : World) : (Instr.typeAssert (.iface 61 (.agg #[])) 52 59 true).run Try.prog w = .ok (.tuple #[.agg #[], .bool false]) w := by kernel_rfl
theorem as_text_text (w : World) : (Instr.typeAssert (.iface 61 (.agg #[])) 52 61 true).run Try.prog w = .ok (.tuple #[.agg #[], .bool true]) w := by kernel_rfl
end Go.Proofs.Ytbgapkhcaideiaa

/- The landed program's Take of a value, by its contract. Conditions: the reach of a string. -/
namespace Go.Proofs.Ytbgapkhcaideiaa
open Go Go.RowKit

theorem vcheck_free (k : Nat) (n : Int) (b : Nat) (t : ByteArray) (w : World) (hb : b ≤ 18446744073709551615) (ht : t.size ≤ 9223372036854775807) : Calls Try.prog 22 #[vv k n b t] w (Says w (.int .i64 (checkV k n b t))) := by
  by_cases h : k < 1 ∨ 4 < k
  · exact vcheck_none k n b t w h
  · have : k = 1 ∨ k = 2 ∨ k = 3 ∨ k = 4 := by omega
    rcases this with rfl | rfl | rfl | rfl
    · exact vcheck_whole n b t w
    · exact vcheck_flag n b t w
    · exact vcheck_double n b t w hb
    · exact vcheck_text n b t w ht

end Go.Proofs.Ytbgapkhcaideiaa

