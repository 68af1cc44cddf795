/- The document's Into and Sort of events, by their contracts. Conditions: few events. (Written by tools/mker6.py.) -/
import Derived.Test.YtnldgmpfinlikaaER4
import Derived.Test.YtnldgmpfinlikaaBase
namespace Go.Proofs.Ytnldgmpfinlikaa
open Go Go.RowKit

def Hold9 (p : Prop) : Prop := p
theorem hold9 {p : Prop} (h : Hold9 p) : p := h
theorem RowsAt.take {w : World} {R : List Value} {L : List EZ} (h : RowsAt w R L) (k : Nat) : RowsAt w (R.take k) (L.take k) := by
  refine ⟨by rw [List.length_take, List.length_take, h.1], fun i h1 h2 => ?_⟩
  rw [List.getElem_take, List.getElem_take]
  rw [List.length_take] at h1
  exact h.2 i (by omega) (by rw [h.1]; omega)
theorem RowsAt.drop {w : World} {R : List Value} {L : List EZ} (h : RowsAt w R L) (k : Nat) : RowsAt w (R.drop k) (L.drop k) := by
  refine ⟨by rw [List.length_drop, List.length_drop, h.1], fun i h1 h2 => ?_⟩
  rw [List.getElem_drop, List.getElem_drop]
  rw [List.length_drop] at h1
  exact h.2 (k + i) (by omega) (by rw [h.1]; omega)
theorem ValsAt.one {w : World} {r : Value} {V : List VZ} (h : ValsAt w r V) : r.oneCell' = true := by
  obtain ⟨A, c, rfl, _⟩ := h
  rfl
theorem RowsAt.one {w : World} {R : List Value} {L : List EZ} (h : RowsAt w R L) : ∀ r ∈ R, r.oneCell' = true := by
  intro r hr
  obtain ⟨i, hi, rfl⟩ := List.getElem_of_mem hr
  exact (h.2 i (by rw [← h.1]; exact hi) hi).one
end Go.Proofs.Ytnldgmpfinlikaa
