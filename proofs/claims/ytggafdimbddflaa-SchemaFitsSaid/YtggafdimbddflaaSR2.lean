/- The document's one and Check of types, by their contracts. Conditions: numbers within their kinds. -/
import Derived.Test.YtggafdimbddflaaSR1
import Derived.Test.YtggafdimbddflaaVR1
import Derived.BigQuiet
namespace Go.Proofs.Ytggafdimbddflaa
open Go Go.RowKit

def FieldOk (f : FZ) : Prop := f.n.size ≤ 9223372036854775807 ∧ f.k ≤ 255
def FieldsOk (F : List FZ) : Prop := ∀ f ∈ F, FieldOk f
def TypeOk (t : TZ) : Prop := t.n.size ≤ 9223372036854775807 ∧ FieldsOk t.f
def TypesOk (L : List TZ) : Prop := ∀ t ∈ L, TypeOk t

theorem FieldsAt.open_ {w : World} {v : Value} {F : List FZ} (h : FieldsAt w v F) {i : Nat} (hi : i < F.length) :
    ∃ g o c, v = .slice (some ⟨g, o, none⟩) F.length c ∧ F.length ≤ c ∧ c ≤ maxLen ∧ w.cell? ⟨g, o + i * 2, none⟩ = some (.string F[i].n) ∧ w.cell? ⟨g, o + i * 2 + 1, none⟩ = some (.int .u8 (F[i].k : Int)) := by
  obtain ⟨A, c, rfl, h1, h2, h3⟩ := h
  obtain ⟨g, o, rfl, q1, q2⟩ := h3 i hi
  exact ⟨g, o, c, rfl, h1, h2, q1, q2⟩

theorem fields_at {F : List FZ} {i : Nat} (h : i < F.length) : fieldsZ (F.take i) (F.drop i) =
    if nameZ F[i].n = false then 4 else if F[i].k < 1 ∨ 4 < F[i].k then 11 else if ∃ g ∈ F.take i, g.n = F[i].n then 21 else fieldsZ (F.take (i + 1)) (F.drop (i + 1)) := by
  rw [List.drop_eq_getElem_cons h, List.take_succ_eq_append_getElem h]
  rfl
theorem word_some {k : Nat} (h : ¬ (k < 1 ∨ 4 < k)) : ((wordV k).toList == ([] : List UInt8)) = false := by
  have : k = 1 ∨ k = 2 ∨ k = 3 ∨ k = 4 := by omega
  rw [ByteArray.toList_eq]
  rcases this with rfl | rfl | rfl | rfl <;> rfl
theorem word_none {k : Nat} (h : k < 1 ∨ 4 < k) : wordV k = noText := by
  unfold wordV
  rw [if_neg (by omega), if_neg (by omega), if_neg (by omega), if_neg (by omega)]

theorem types_at {L : List TZ} {i : Nat} (h : i < L.length) : typesZ (L.take i) (L.drop i) =
    if oneZ L[i] ≠ 0 then oneZ L[i] else if ∃ g ∈ L.take i, g.n = L[i].n then 21 else typesZ (L.take (i + 1)) (L.drop (i + 1)) := by
  rw [List.drop_eq_getElem_cons h, List.take_succ_eq_append_getElem h]
  rfl
theorem TypesAt.open_ {w : World} {v : Value} {L : List TZ} (h : TypesAt w v L) {i : Nat} (hi : i < L.length) :
    ∃ g o c r, v = .slice (some ⟨g, o, none⟩) L.length c ∧ L.length ≤ c ∧ c ≤ maxLen ∧ w.cell? ⟨g, o + i * 2, none⟩ = some (.string L[i].n) ∧ w.cell? ⟨g, o + i * 2 + 1, none⟩ = some r ∧ FieldsAt w r L[i].f := by
  obtain ⟨A, c, rfl, h1, h2, h3⟩ := h
  obtain ⟨g, o, r, rfl, q1, q2, q3⟩ := h3 i hi
  exact ⟨g, o, c, r, rfl, h1, h2, q1, q2, q3⟩

end Go.Proofs.Ytggafdimbddflaa
