/- The document's Parse, by its contract. Conditions: texts of up to 2^20 bytes. -/
import Derived.Test.YtggafdimbddflaaSR7
import Derived.BigQuiet
namespace Go.Proofs.Ytggafdimbddflaa
open Go Go.RowKit

/-- types are told, and an error -/
def SaysTypes (w : World) (t : List TZ × Int) (e : Ending) (w' : World) : Prop := ∃ v, e = .returned (.tuple #[v, .int .i64 t.2]) ∧ TypesAt w' v t.1 ∧ Ext w w'
theorem SaysTypes.mk {w w' : World} {P : List TZ × Int} {L : List TZ} {x : Int} {v : Value} (h : P = (L, x)) (hv : TypesAt w' v L) (hx : Ext w w') : SaysTypes w P (.returned (.tuple #[v, .int .i64 x])) w' := by
  subst h
  exact ⟨v, rfl, hv, hx⟩
end Go.Proofs.Ytggafdimbddflaa
