/- The document's doubles, by their contracts: what they are, ranks, order, signs. Conditions: none. -/
import Derived.Test.YtmgcikjpgbhpgaaSay
import Derived.Test.YtmgcikjpgbhpgaaRRnd
import Derived.Test.YtmgcikjpgbhpgaaBits
namespace Go.Proofs.Ytmgcikjpgbhpgaa
open Go Go.RowKit

theorem kind_le (u : Nat) : kindZ u ≤ 5 := by unfold kindZ; (repeat' split) <;> omega

end Go.Proofs.Ytmgcikjpgbhpgaa
