/- The document's Print of types, by its contract. Conditions: small types. -/
import Derived.Test.YtggafdimbddflaaSR5
import Derived.BigQuiet
namespace Go.Proofs.Ytggafdimbddflaa
open Go Go.RowKit

def FieldSmall (f : FZ) : Prop := f.n.size ≤ 40 ∧ f.k ≤ 255
def TypeSmall (t : TZ) : Prop := t.n.size ≤ 40 ∧ t.f.length ≤ 12 ∧ ∀ f ∈ t.f, FieldSmall f
def TypesSmall (L : List TZ) : Prop := L.length ≤ 12 ∧ ∀ t ∈ L, TypeSmall t
theorem word_len (k : Nat) : (wordV k).size ≤ 4 := by
  unfold wordV
  (repeat' split) <;> decide
theorem field_len {f : FZ} (h : FieldSmall f) : (fieldB f).length ≤ 46 := by
  have h1 : f.n.data.toList.length = f.n.size := rfl
  have h2 : (wordV f.k).data.toList.length = (wordV f.k).size := rfl
  have h3 := word_len f.k
  have h4 := h.1
  show (32 :: f.n.data.toList ++ 58 :: (wordV f.k).data.toList).length ≤ 46
  simp only [List.length_append, List.length_cons]
  omega
theorem fields_len {F : List FZ} : ∀ (_ : ∀ f ∈ F, FieldSmall f), (F.flatMap fieldB).length ≤ 46 * F.length := by
  induction F with
  | nil => intro _; exact Nat.le_refl _
  | cons f r ih =>
    intro h
    have h1 := field_len (h f (List.mem_cons_self ..))
    have h2 := ih (fun g hg => h g (List.mem_cons_of_mem _ hg))
    rw [List.flatMap_cons, List.length_append, List.length_cons]
    omega
theorem type_len {t : TZ} (h : TypeSmall t) : (typeB t).length ≤ 593 := by
  have h1 : t.n.data.toList.length = t.n.size := rfl
  have h2 := fields_len h.2.2
  have h3 := h.1
  have h4 := h.2.1
  show (t.n.data.toList ++ t.f.flatMap fieldB ++ [10]).length ≤ 593
  simp only [List.length_append, List.length_singleton]
  omega
theorem print_len {L : List TZ} : ∀ (_ : ∀ t ∈ L, TypeSmall t), (printZ L).length ≤ 593 * L.length := by
  unfold printZ
  induction L with
  | nil => intro _; exact Nat.le_refl _
  | cons f r ih =>
    intro h
    have h1 := type_len (h f (List.mem_cons_self ..))
    have h2 := ih (fun g hg => h g (List.mem_cons_of_mem _ hg))
    rw [List.flatMap_cons, List.length_append, List.length_cons]
    omega
theorem bytesA_size (a : List UInt8) : (bytesA a).size = a.length := rfl
end Go.Proofs.Ytggafdimbddflaa
