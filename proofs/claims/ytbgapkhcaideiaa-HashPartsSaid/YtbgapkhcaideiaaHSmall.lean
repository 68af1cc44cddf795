/- telltalelaw04.Small, by its contract; cells of two. Conditions: the reach of a string. -/
import Derived.Test.YtbgapkhcaideiaaVR1
import Derived.Test.YtbgapkhcaideiaaBase
namespace Go.Proofs.Ytbgapkhcaideiaa
open Go Go.RowKit

theorem boxH2 {w1 : World} {g : Nat} {a b : Value} {t : TypeId} (h : w1.heap[g]? = some (.cells #[a, b] t (0, 0))) :
    (w1.cell? ⟨g, 0, none⟩ = some a ∧ w1.cell? ⟨g, 1, none⟩ = some b) ∧ (w1.frozen? ⟨g, 0, none⟩ = false ∧ w1.frozen? ⟨g, 1, none⟩ = false) ∧ g < w1.heap.size :=
  ⟨⟨cell_of_row _ _ 0 _ _ _ h, cell_of_row _ _ 1 _ _ _ h⟩, ⟨frozen_of_row _ _ 0 _ _ h, frozen_of_row _ _ 1 _ _ h⟩, (Array.getElem?_eq_some_iff.1 h).1⟩

end Go.Proofs.Ytbgapkhcaideiaa
