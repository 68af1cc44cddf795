/- The document's Same of types, by its contract. Conditions: none. -/
import Derived.Test.YtggafdimbddflaaSR3
import Derived.BigQuiet
namespace Go.Proofs.Ytggafdimbddflaa
open Go Go.RowKit

def sameF : List FZ → List FZ → Bool
  | [], [] => true
  | f :: r, g :: s => decide (f.n = g.n ∧ f.k = g.k) && sameF r s
  | _, _ => false
def sameL : List TZ → List TZ → Bool
  | [], [] => true
  | t :: r, u :: s => decide (t.n = u.n) && sameF t.f u.f && sameL r s
  | _, _ => false
theorem sameF_iff : ∀ (F G : List FZ), sameF F G = true ↔ F = G
  | [], [] => ⟨fun _ => rfl, fun _ => rfl⟩
  | [], g :: s => ⟨fun h => (by cases h), fun h => (by cases h)⟩
  | f :: r, [] => ⟨fun h => (by cases h), fun h => (by cases h)⟩
  | f :: r, g :: s => by
    obtain ⟨fn, fk⟩ := f
    obtain ⟨gn, gk⟩ := g
    have ih := sameF_iff r s
    show (decide (fn = gn ∧ fk = gk) && sameF r s) = true ↔ _
    rw [Bool.and_eq_true, decide_eq_true_iff, ih]
    constructor
    · rintro ⟨⟨rfl, rfl⟩, rfl⟩; rfl
    · intro h; cases h; exact ⟨⟨rfl, rfl⟩, rfl⟩
theorem sameL_iff : ∀ (L M : List TZ), sameL L M = true ↔ L = M
  | [], [] => ⟨fun _ => rfl, fun _ => rfl⟩
  | [], g :: s => ⟨fun h => (by cases h), fun h => (by cases h)⟩
  | f :: r, [] => ⟨fun h => (by cases h), fun h => (by cases h)⟩
  | f :: r, g :: s => by
    obtain ⟨fn, ff⟩ := f
    obtain ⟨gn, gf⟩ := g
    have ih := sameL_iff r s
    show (decide (fn = gn) && sameF ff gf && sameL r s) = true ↔ _
    rw [Bool.and_eq_true, Bool.and_eq_true, decide_eq_true_iff, ih, sameF_iff]
    constructor
    · rintro ⟨⟨rfl, rfl⟩, rfl⟩; rfl
    · intro h; cases h; exact ⟨⟨rfl, rfl⟩, rfl⟩
theorem same_at {L M : List TZ} {i : Nat} (h : i < L.length) (hm : i < M.length) : sameL (L.drop i) (M.drop i) = (decide (L[i].n = M[i].n) && sameF L[i].f M[i].f && sameL (L.drop (i + 1)) (M.drop (i + 1))) := by
  rw [List.drop_eq_getElem_cons h, List.drop_eq_getElem_cons hm]
  rfl
theorem samef_at {L M : List FZ} {i : Nat} (h : i < L.length) (hm : i < M.length) : sameF (L.drop i) (M.drop i) = (decide (L[i].n = M[i].n ∧ L[i].k = M[i].k) && sameF (L.drop (i + 1)) (M.drop (i + 1))) := by
  rw [List.drop_eq_getElem_cons h, List.drop_eq_getElem_cons hm]
  rfl
theorem samef_len {F G : List FZ} (h : F.length ≠ G.length) : sameF F G = false := by
  rw [← Bool.not_eq_true, sameF_iff]
  rintro rfl
  exact h rfl
theorem same_len {F G : List TZ} (h : F.length ≠ G.length) : sameL F G = false := by
  rw [← Bool.not_eq_true, sameL_iff]
  rintro rfl
  exact h rfl
end Go.Proofs.Ytggafdimbddflaa
