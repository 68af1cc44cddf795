/- zig.Take and zig.TakeInt, by their contracts. Conditions: the reach of a string. -/
import Derived.Test.YtaahaehgdamkdaaSay
import Derived.Test.YtaahaehgdamkdaaZDig
namespace Go.Proofs.Ytaahaehgdamkdaa
open Go Go.RowKit

/-- what is read is told -/
def SaysT (w : World) (t : Nat × Int × Int) (e : Ending) (w' : World) : Prop := e = .returned (.tuple #[.int .u64 (t.1 : Int), .int .i64 t.2.1, .int .i64 t.2.2]) ∧ Ext w w'
theorem SaysT.mk {w w' : World} {t : Nat × Int × Int} {u : Nat} {n e : Int} (h : t = (u, n, e)) (hx : Ext w w') : SaysT w t (.returned (.tuple #[.int .u64 (u : Int), .int .i64 n, .int .i64 e])) w' := by
  subst h
  exact ⟨rfl, hx⟩

end Go.Proofs.Ytaahaehgdamkdaa
