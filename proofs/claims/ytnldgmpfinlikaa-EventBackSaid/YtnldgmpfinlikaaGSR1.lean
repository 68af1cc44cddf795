/- Several texts in one: SR1, SR2, SR3, SR6. Conditions: those of each. -/
import Derived.BigQuiet
import Derived.Test.YtnldgmpfinlikaaBase
import Derived.Test.YtnldgmpfinlikaaVR1
/- The document's Reserved and Name, by their contracts. Conditions: none. -/
namespace Go.Proofs.Ytnldgmpfinlikaa
open Go Go.RowKit

theorem letters_step {i : Nat} {b : UInt8} {r : List UInt8} : lettersZ i (b :: r) = (letterZ i b.toNat && lettersZ (i + 1) r) := rfl
theorem letters_at {s : ByteArray} {i : Nat} (h : i < s.size) : lettersZ i (s.data.toList.drop i) = (letterZ i (s[i]'h).toNat && lettersZ (i + 1) (s.data.toList.drop (i + 1))) := by
  rw [List.drop_eq_getElem_cons (by rw [size_toList]; exact h), letters_step]
  rfl
theorem letters_last {s : ByteArray} : lettersZ s.size (s.data.toList.drop s.size) = true := by
  rw [List.drop_of_length_le (by rw [size_toList]; exact Nat.le_refl _)]
  rfl
theorem letter_of {i b : Nat} {r : Bool} (h : r = true ↔ (97 ≤ b ∧ b ≤ 122) ∨ (i ≠ 0 ∧ ((48 ≤ b ∧ b ≤ 57) ∨ b = 95))) : letterZ i b = r := by
  rw [Bool.eq_iff_iff, h]
  exact decide_eq_true_iff

theorem byte_ways (b : Nat) : ((97 : Int) ≤ (b : Int) ∧ (b : Int) ≤ 122) ∨ ((48 : Int) ≤ (b : Int) ∧ (b : Int) ≤ 57) ∨ (b : Int) = 95 ∨ ((b : Int) < 48 ∧ (b : Int) < 97) ∨ ((57 : Int) < (b : Int) ∧ (b : Int) < 97 ∧ (b : Int) ≠ 95) ∨ (122 : Int) < (b : Int) := by omega

end Go.Proofs.Ytnldgmpfinlikaa

/- The document's one and Check of types, by their contracts. Conditions: numbers within their kinds. -/
namespace Go.Proofs.Ytnldgmpfinlikaa
open Go Go.RowKit

def FieldOk (f : FZ) : Prop := f.n.size ≤ 9223372036854775807 ∧ f.k ≤ 255
def FieldsOk (F : List FZ) : Prop := ∀ f ∈ F, FieldOk f
def TypeOk (t : TZ) : Prop := t.n.size ≤ 9223372036854775807 ∧ FieldsOk t.f
def TypesOk (L : List TZ) : Prop := ∀ t ∈ L, TypeOk t

theorem FieldsAt.open_ {w : World} {v : Value} {F : List FZ} (h : FieldsAt w v F) {i : Nat} (hi : i < F.length) :
    ∃ g o c, v = .slice (some ⟨g, o, none⟩) F.length c ∧ F.length ≤ c ∧ c ≤ maxLen ∧ w.cell? ⟨g, o + i * 2, none⟩ = some (.string F[i].n) ∧ w.cell? ⟨g, o + i * 2 + 1, none⟩ = some (.int .u8 (F[i].k : Int)) := by
  obtain ⟨A, c, rfl, h1, h2, h3⟩ := h
  obtain ⟨g, o, rfl, q1, q2⟩ := h3 i hi
  exact ⟨g, o, c, rfl, h1, h2, q1, q2⟩

theorem fields_at {F : List FZ} {i : Nat} (h : i < F.length) : fieldsZ (F.take i) (F.drop i) =
    if nameZ F[i].n = false then 4 else if F[i].k < 1 ∨ 4 < F[i].k then 11 else if ∃ g ∈ F.take i, g.n = F[i].n then 21 else fieldsZ (F.take (i + 1)) (F.drop (i + 1)) := by
  rw [List.drop_eq_getElem_cons h, List.take_succ_eq_append_getElem h]
  rfl
theorem word_some {k : Nat} (h : ¬ (k < 1 ∨ 4 < k)) : ((wordV k).toList == ([] : List UInt8)) = false := by
  have : k = 1 ∨ k = 2 ∨ k = 3 ∨ k = 4 := by omega
  rw [ByteArray.toList_eq]
  rcases this with rfl | rfl | rfl | rfl <;> rfl
theorem word_none {k : Nat} (h : k < 1 ∨ 4 < k) : wordV k = noText := by
  unfold wordV
  rw [if_neg (by omega), if_neg (by omega), if_neg (by omega), if_neg (by omega)]

theorem types_at {L : List TZ} {i : Nat} (h : i < L.length) : typesZ (L.take i) (L.drop i) =
    if oneZ L[i] ≠ 0 then oneZ L[i] else if ∃ g ∈ L.take i, g.n = L[i].n then 21 else typesZ (L.take (i + 1)) (L.drop (i + 1)) := by
  rw [List.drop_eq_getElem_cons h, List.take_succ_eq_append_getElem h]
  rfl
theorem TypesAt.open_ {w : World} {v : Value} {L : List TZ} (h : TypesAt w v L) {i : Nat} (hi : i < L.length) :
    ∃ g o c r, v = .slice (some ⟨g, o, none⟩) L.length c ∧ L.length ≤ c ∧ c ≤ maxLen ∧ w.cell? ⟨g, o + i * 2, none⟩ = some (.string L[i].n) ∧ w.cell? ⟨g, o + i * 2 + 1, none⟩ = some r ∧ FieldsAt w r L[i].f := by
  obtain ⟨A, c, rfl, h1, h2, h3⟩ := h
  obtain ⟨g, o, r, rfl, q1, q2, q3⟩ := h3 i hi
  exact ⟨g, o, c, r, rfl, h1, h2, q1, q2, q3⟩

end Go.Proofs.Ytnldgmpfinlikaa

/- The document's Find, At, Fits of types, by their contracts. Conditions: numbers within their kinds. -/
namespace Go.Proofs.Ytnldgmpfinlikaa
open Go Go.RowKit

/-- a type is told, and whether -/
def SaysTy (w : World) (t : TZ × Bool) (e : Ending) (w' : World) : Prop := ∃ v, e = .returned (.tuple #[v, .bool t.2]) ∧ TypeV w' v t.1 ∧ Ext w w'
theorem set2 {x : World} {g : Nat} {u0 u1 a b : Value} {t : TypeId} (h : x.heap[g]? = some (.cells #[u0, u1] t (0, 0))) :
    ((x.setCell ⟨g, 0, none⟩ a).setCell ⟨g, 1, none⟩ b).heap[g]? = some (.cells #[a, b] t (0, 0)) := by
  have h1 := heap_setCell_same x g 0 _ t a h
  have h2 := heap_setCell_same _ g 1 _ t b h1
  simpa using h2
theorem box2 {w1 : World} {g : Nat} {a b : Value} {t : TypeId} (h : w1.heap[g]? = some (.cells #[a, b] t (0, 0))) :
    (w1.cell? ⟨g, 0, none⟩ = some a ∧ w1.cell? ⟨g, 1, none⟩ = some b) ∧ (w1.frozen? ⟨g, 0, none⟩ = false ∧ w1.frozen? ⟨g, 1, none⟩ = false) ∧ g < w1.heap.size :=
  ⟨⟨cell_of_row _ _ 0 _ _ _ h, cell_of_row _ _ 1 _ _ _ h⟩, ⟨frozen_of_row _ _ 0 _ _ h, frozen_of_row _ _ 1 _ _ h⟩, (Array.getElem?_eq_some_iff.1 h).1⟩

/-- a place and a kind are told -/
def SaysAt (w : World) (t : Int × Nat) (e : Ending) (w' : World) : Prop := e = .returned (.tuple #[.int .i64 t.1, .int .u8 (t.2 : Int)]) ∧ Ext w w'
theorem SaysAt.mk {w w' : World} {t : Int × Nat} {x : Int} {k : Nat} (h : t = (x, k)) (hx : Ext w w') : SaysAt w t (.returned (.tuple #[.int .i64 x, .int .u8 (k : Int)])) w' := by
  subst h
  exact ⟨rfl, hx⟩
theorem at_at {name : ByteArray} {F : List FZ} {i : Nat} (h : i < F.length) : atZ name i (F.drop i) = if F[i].n = name then ((i : Int), F[i].k) else atZ name (i + 1) (F.drop (i + 1)) := by
  rw [List.drop_eq_getElem_cons h]
  rfl

/-- values lie behind this slice -/
def ValsAt (w : World) (v : Value) (V : List VZ) : Prop :=
  ∃ A c, v = .slice A V.length c ∧ V.length ≤ c ∧ c ≤ maxLen ∧
    ∀ i (h : i < V.length), ∃ g o, A = some ⟨g, o, none⟩ ∧ w.cell? ⟨g, o + i * 4, none⟩ = some (.int .u8 (V[i].k : Int)) ∧ w.cell? ⟨g, o + i * 4 + 1, none⟩ = some (.int .i64 V[i].n) ∧
      w.cell? ⟨g, o + i * 4 + 2, none⟩ = some (.int .u64 (V[i].b : Int)) ∧ w.cell? ⟨g, o + i * 4 + 3, none⟩ = some (.string V[i].t)
theorem ValsAt.ext {w w' : World} {v : Value} {V : List VZ} (h : ValsAt w v V) (e : Ext w w') : ValsAt w' v V := by
  obtain ⟨A, c, rfl, h1, h2, h3⟩ := h
  refine ⟨A, c, rfl, h1, h2, fun i hi => ?_⟩
  obtain ⟨g, o, rfl, q1, q2, q3, q4⟩ := h3 i hi
  exact ⟨g, o, rfl, e.cell q1, e.cell q2, e.cell q3, e.cell q4⟩
theorem ValsAt.open_ {w : World} {v : Value} {V : List VZ} (h : ValsAt w v V) {i : Nat} (hi : i < V.length) :
    ∃ g o c, v = .slice (some ⟨g, o, none⟩) V.length c ∧ w.cell? ⟨g, o + i * 4, none⟩ = some (.int .u8 (V[i].k : Int)) ∧ w.cell? ⟨g, o + i * 4 + 1, none⟩ = some (.int .i64 V[i].n) ∧
      w.cell? ⟨g, o + i * 4 + 2, none⟩ = some (.int .u64 (V[i].b : Int)) ∧ w.cell? ⟨g, o + i * 4 + 3, none⟩ = some (.string V[i].t) := by
  obtain ⟨A, c, rfl, h1, h2, h3⟩ := h
  obtain ⟨g, o, rfl, q1, q2, q3, q4⟩ := h3 i hi
  exact ⟨g, o, c, rfl, q1, q2, q3, q4⟩
def ValOk (v : VZ) : Prop := v.k ≤ 255 ∧ -9223372036854775808 ≤ v.n ∧ v.n ≤ 9223372036854775807 ∧ v.b ≤ 18446744073709551615 ∧ v.t.size ≤ 9223372036854775807
def ValsOk (V : List VZ) : Prop := ∀ v ∈ V, ValOk v
theorem fit_at {F : List FZ} {V : List VZ} {i : Nat} (h : i < F.length) (hv : i < V.length) : fitZ (F.drop i) (V.drop i) =
    if checkV V[i].k V[i].n V[i].b V[i].t ≠ 0 then checkV V[i].k V[i].n V[i].b V[i].t else if V[i].k ≠ F[i].k then 19 else fitZ (F.drop (i + 1)) (V.drop (i + 1)) := by
  rw [List.drop_eq_getElem_cons h, List.drop_eq_getElem_cons hv]
  rfl

end Go.Proofs.Ytnldgmpfinlikaa

/- The document's Print of types, by its contract. Conditions: small types. -/
namespace Go.Proofs.Ytnldgmpfinlikaa
open Go Go.RowKit

def FieldSmall (f : FZ) : Prop := f.n.size ≤ 40 ∧ f.k ≤ 255
def TypeSmall (t : TZ) : Prop := t.n.size ≤ 40 ∧ t.f.length ≤ 12 ∧ ∀ f ∈ t.f, FieldSmall f
def TypesSmall (L : List TZ) : Prop := L.length ≤ 12 ∧ ∀ t ∈ L, TypeSmall t
end Go.Proofs.Ytnldgmpfinlikaa

