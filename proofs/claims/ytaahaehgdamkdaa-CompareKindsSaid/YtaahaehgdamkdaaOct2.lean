/- octet.Num, octet.Word, octet.Text, by their contracts. Conditions: the reach of a slice. -/
import Derived.Test.YtaahaehgdamkdaaSay
namespace Go.Proofs.Ytaahaehgdamkdaa
open Go Go.RowKit

/-- a pair of bytes and a number is told, and nothing that was there has turned -/
def Told2 (w : World) (p : List UInt8 × Int) (e : Ending) (w' : World) : Prop := ∃ r, e = .returned (.tuple #[r, .int .i64 p.2]) ∧ w'.ownsRow w.heap.size 5 1 r p.1.length (bvs p.1) ∧ Ext w w'

theorem Told2.mk {w w' : World} {p : List UInt8 × Int} {l : List UInt8} {e : Int} {r : Value} {n : Nat} (hp : p = (l, e)) (hb : w'.ownsRow w.heap.size 5 1 r n (bvs l)) (hx : Ext w w') : Told2 w p (.returned (.tuple #[r, .int .i64 e])) w' := by
  subst hp
  exact ⟨r, rfl, own_len hb, hx⟩


end Go.Proofs.Ytaahaehgdamkdaa
