/- The document's Value, Same, SameAll, Sorted of events, and its place, by their contracts. Conditions: numbers within their kinds. -/
import Derived.Test.YtnldgmpfinlikaaER1
import Derived.Test.YtnldgmpfinlikaaBase
namespace Go.Proofs.Ytnldgmpfinlikaa
open Go Go.RowKit

def sameVE : List VZ → List VZ → Bool
  | [], [] => true
  | x :: r, y :: s => decide (x.k = y.k ∧ x.n = y.n ∧ x.b = y.b ∧ x.t = y.t) && sameVE r s
  | _, _ => false
def sameEv (a b : EZ) : Bool := decide (a.m = b.m ∧ a.o = b.o ∧ a.q = b.q ∧ a.n = b.n ∧ a.v.length = b.v.length) && sameVE a.v b.v
theorem sameV_iff : ∀ (V U : List VZ), sameVE V U = true ↔ V = U
  | [], [] => ⟨fun _ => rfl, fun _ => rfl⟩
  | [], _ :: _ => ⟨fun h => (by cases h), fun h => (by cases h)⟩
  | _ :: _, [] => ⟨fun h => (by cases h), fun h => (by cases h)⟩
  | x :: r, y :: s => by
    obtain ⟨xk, xn, xb, xt⟩ := x
    obtain ⟨yk, yn, yb, yt⟩ := y
    have ih := sameV_iff r s
    show (decide (xk = yk ∧ xn = yn ∧ xb = yb ∧ xt = yt) && sameVE r s) = true ↔ _
    rw [Bool.and_eq_true, decide_eq_true_iff, ih]
    constructor
    · rintro ⟨⟨rfl, rfl, rfl, rfl⟩, rfl⟩; rfl
    · intro h; cases h; exact ⟨⟨rfl, rfl, rfl, rfl⟩, rfl⟩
theorem sameEv_iff (a b : EZ) : sameEv a b = true ↔ a = b := by
  obtain ⟨am, ao, aq, an, av⟩ := a
  obtain ⟨bm, bo, bq, bn, bv⟩ := b
  show (decide (am = bm ∧ ao = bo ∧ aq = bq ∧ an = bn ∧ av.length = bv.length) && sameVE av bv) = true ↔ _
  rw [Bool.and_eq_true, decide_eq_true_iff, sameV_iff]
  constructor
  · rintro ⟨⟨rfl, rfl, rfl, rfl, _⟩, rfl⟩; rfl
  · intro h; cases h; exact ⟨⟨rfl, rfl, rfl, rfl, rfl⟩, rfl⟩
theorem sameV_at {V U : List VZ} {i : Nat} (h : i < V.length) (hu : i < U.length) : sameVE (V.drop i) (U.drop i) = (decide (V[i].k = U[i].k ∧ V[i].n = U[i].n ∧ V[i].b = U[i].b ∧ V[i].t = U[i].t) && sameVE (V.drop (i + 1)) (U.drop (i + 1))) := by
  rw [List.drop_eq_getElem_cons h, List.drop_eq_getElem_cons hu]
  rfl
end Go.Proofs.Ytnldgmpfinlikaa
