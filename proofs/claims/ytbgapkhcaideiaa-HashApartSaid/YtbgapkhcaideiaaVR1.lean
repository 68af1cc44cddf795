/- The document's Check, Rank, OfInt, OfFlag, OfReal, OfText, Word, by their contracts. Conditions: numbers within their kinds. -/
import Derived.Test.YtbgapkhcaideiaaBase
import Derived.BigQuiet
namespace Go.Proofs.Ytbgapkhcaideiaa
open Go Go.RowKit

theorem box4 {w1 : World} {g : Nat} {a b c d : Value} {t : TypeId} (h : w1.heap[g]? = some (.cells #[a, b, c, d] t (0, 0))) :
    (w1.cell? ⟨g, 0, none⟩ = some a ∧ w1.cell? ⟨g, 1, none⟩ = some b ∧ w1.cell? ⟨g, 2, none⟩ = some c ∧ w1.cell? ⟨g, 3, none⟩ = some d) ∧ (w1.frozen? ⟨g, 0, none⟩ = false ∧ w1.frozen? ⟨g, 1, none⟩ = false ∧ w1.frozen? ⟨g, 2, none⟩ = false ∧ w1.frozen? ⟨g, 3, none⟩ = false) ∧ g < w1.heap.size :=
  ⟨⟨cell_of_row _ _ 0 _ _ _ h, cell_of_row _ _ 1 _ _ _ h, cell_of_row _ _ 2 _ _ _ h, cell_of_row _ _ 3 _ _ _ h⟩, ⟨frozen_of_row _ _ 0 _ _ h, frozen_of_row _ _ 1 _ _ h, frozen_of_row _ _ 2 _ _ h, frozen_of_row _ _ 3 _ _ h⟩, (Array.getElem?_eq_some_iff.1 h).1⟩

theorem text_empty (t : ByteArray) : t.toList.isEmpty = decide (t.size = 0) := by
  rw [ByteArray.toList_eq, Bool.eq_iff_iff, List.isEmpty_iff, decide_eq_true_iff, ← List.length_eq_zero_iff]
  rfl
theorem text_none (t : ByteArray) : t = ByteArray.empty ↔ t.size = 0 := by
  constructor
  · intro h; rw [h]; rfl
  · intro h
    refine ba_eq ?_
    have : t.data.toList.length = 0 := h
    rw [List.length_eq_zero_iff.1 this]
    rfl

end Go.Proofs.Ytbgapkhcaideiaa
