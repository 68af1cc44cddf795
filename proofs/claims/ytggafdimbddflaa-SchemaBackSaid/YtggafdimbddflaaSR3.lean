/- The document's Find, At, Fits of types, by their contracts. Conditions: numbers within their kinds. -/
import Derived.Test.YtggafdimbddflaaSR2
import Derived.Test.YtggafdimbddflaaVR1
import Derived.BigQuiet
namespace Go.Proofs.Ytggafdimbddflaa
open Go Go.RowKit

/-- a type is told, and whether -/
def SaysTy (w : World) (t : TZ × Bool) (e : Ending) (w' : World) : Prop := ∃ v, e = .returned (.tuple #[v, .bool t.2]) ∧ TypeV w' v t.1 ∧ Ext w w'
theorem set2 {x : World} {g : Nat} {u0 u1 a b : Value} {t : TypeId} (h : x.heap[g]? = some (.cells #[u0, u1] t (0, 0))) :
    ((x.setCell ⟨g, 0, none⟩ a).setCell ⟨g, 1, none⟩ b).heap[g]? = some (.cells #[a, b] t (0, 0)) := by
  have h1 := heap_setCell_same x g 0 _ t a h
  have h2 := heap_setCell_same _ g 1 _ t b h1
  simpa using h2
theorem box2 {w1 : World} {g : Nat} {a b : Value} {t : TypeId} (h : w1.heap[g]? = some (.cells #[a, b] t (0, 0))) :
    (w1.cell? ⟨g, 0, none⟩ = some a ∧ w1.cell? ⟨g, 1, none⟩ = some b) ∧ (w1.frozen? ⟨g, 0, none⟩ = false ∧ w1.frozen? ⟨g, 1, none⟩ = false) ∧ g < w1.heap.size :=
  ⟨⟨cell_of_row _ _ 0 _ _ _ h, cell_of_row _ _ 1 _ _ _ h⟩, ⟨frozen_of_row _ _ 0 _ _ h, frozen_of_row _ _ 1 _ _ h⟩, (Array.getElem?_eq_some_iff.1 h).1⟩

/-- a place and a kind are told -/
def SaysAt (w : World) (t : Int × Nat) (e : Ending) (w' : World) : Prop := e = .returned (.tuple #[.int .i64 t.1, .int .u8 (t.2 : Int)]) ∧ Ext w w'
theorem SaysAt.mk {w w' : World} {t : Int × Nat} {x : Int} {k : Nat} (h : t = (x, k)) (hx : Ext w w') : SaysAt w t (.returned (.tuple #[.int .i64 x, .int .u8 (k : Int)])) w' := by
  subst h
  exact ⟨rfl, hx⟩
theorem at_at {name : ByteArray} {F : List FZ} {i : Nat} (h : i < F.length) : atZ name i (F.drop i) = if F[i].n = name then ((i : Int), F[i].k) else atZ name (i + 1) (F.drop (i + 1)) := by
  rw [List.drop_eq_getElem_cons h]
  rfl

/-- values lie behind this slice -/
def ValsAt (w : World) (v : Value) (V : List VZ) : Prop :=
  ∃ A c, v = .slice A V.length c ∧ V.length ≤ c ∧ c ≤ maxLen ∧
    ∀ i (h : i < V.length), ∃ g o, A = some ⟨g, o, none⟩ ∧ w.cell? ⟨g, o + i * 4, none⟩ = some (.int .u8 (V[i].k : Int)) ∧ w.cell? ⟨g, o + i * 4 + 1, none⟩ = some (.int .i64 V[i].n) ∧
      w.cell? ⟨g, o + i * 4 + 2, none⟩ = some (.int .u64 (V[i].b : Int)) ∧ w.cell? ⟨g, o + i * 4 + 3, none⟩ = some (.string V[i].t)
theorem ValsAt.ext {w w' : World} {v : Value} {V : List VZ} (h : ValsAt w v V) (e : Ext w w') : ValsAt w' v V := by
  obtain ⟨A, c, rfl, h1, h2, h3⟩ := h
  refine ⟨A, c, rfl, h1, h2, fun i hi => ?_⟩
  obtain ⟨g, o, rfl, q1, q2, q3, q4⟩ := h3 i hi
  exact ⟨g, o, rfl, e.cell q1, e.cell q2, e.cell q3, e.cell q4⟩
theorem ValsAt.open_ {w : World} {v : Value} {V : List VZ} (h : ValsAt w v V) {i : Nat} (hi : i < V.length) :
    ∃ g o c, v = .slice (some ⟨g, o, none⟩) V.length c ∧ w.cell? ⟨g, o + i * 4, none⟩ = some (.int .u8 (V[i].k : Int)) ∧ w.cell? ⟨g, o + i * 4 + 1, none⟩ = some (.int .i64 V[i].n) ∧
      w.cell? ⟨g, o + i * 4 + 2, none⟩ = some (.int .u64 (V[i].b : Int)) ∧ w.cell? ⟨g, o + i * 4 + 3, none⟩ = some (.string V[i].t) := by
  obtain ⟨A, c, rfl, h1, h2, h3⟩ := h
  obtain ⟨g, o, rfl, q1, q2, q3, q4⟩ := h3 i hi
  exact ⟨g, o, c, rfl, q1, q2, q3, q4⟩
def ValOk (v : VZ) : Prop := v.k ≤ 255 ∧ -9223372036854775808 ≤ v.n ∧ v.n ≤ 9223372036854775807 ∧ v.b ≤ 18446744073709551615 ∧ v.t.size ≤ 9223372036854775807
def ValsOk (V : List VZ) : Prop := ∀ v ∈ V, ValOk v
theorem fit_at {F : List FZ} {V : List VZ} {i : Nat} (h : i < F.length) (hv : i < V.length) : fitZ (F.drop i) (V.drop i) =
    if checkV V[i].k V[i].n V[i].b V[i].t ≠ 0 then checkV V[i].k V[i].n V[i].b V[i].t else if V[i].k ≠ F[i].k then 19 else fitZ (F.drop (i + 1)) (V.drop (i + 1)) := by
  rw [List.drop_eq_getElem_cons h, List.drop_eq_getElem_cons hv]
  rfl

end Go.Proofs.Ytggafdimbddflaa
