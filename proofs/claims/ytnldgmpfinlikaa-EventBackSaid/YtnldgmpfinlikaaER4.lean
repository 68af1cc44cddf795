/- The document's Sorted of events, by its contract. Conditions: numbers within their kinds. (Written by tools/mker3.py.) -/
import Derived.Test.YtnldgmpfinlikaaER2
import Derived.Test.YtnldgmpfinlikaaVR5
namespace Go.Proofs.Ytnldgmpfinlikaa
open Go Go.RowKit

theorem iwrap (n : Int) (h0 : 0 ≤ n) (h : n ≤ 9223372036854775807) : IntKind.i64.wrap n = n := by rw [IntKind.wrap_i64]; omega
theorem sortedE_at {L : List EZ} {j : Nat} (h : j + 1 < L.length) : sortedE (L.drop j) = (lessE L[j] L[j + 1] && sortedE (L.drop (j + 1))) := by
  rw [List.drop_eq_getElem_cons (show j < L.length by omega), List.drop_eq_getElem_cons h]
  rfl
theorem sortedE_end {L : List EZ} {j : Nat} (h : L.length ≤ j + 1) : sortedE (L.drop j) = true := by
  have hl : (L.drop j).length ≤ 1 := by rw [List.length_drop]; omega
  match L.drop j, hl with
  | [], _ => rfl
  | [a], _ => rfl
end Go.Proofs.Ytnldgmpfinlikaa
