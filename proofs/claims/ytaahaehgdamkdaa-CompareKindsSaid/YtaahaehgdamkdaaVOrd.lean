/- The order of texts and of values. Plain; conditions: none. -/
import Derived.Test.YtaahaehgdamkdaaVSpec
namespace Go.Proofs.Ytaahaehgdamkdaa
open Go Go.RowKit

theorem less_gt : ∀ x y : List UInt8, Op.bytesLess y x = !(Op.bytesLess x y || x == y) := by
  intro x
  induction x with
  | nil => intro y; cases y <;> rfl
  | cons a x ih =>
    intro y
    cases y with
    | nil => rfl
    | cons b y =>
      have h := ih y
      have hab : a = b ↔ a.toNat = b.toNat := ⟨fun h => by rw [h], fun h => UInt8.toNat_inj.1 h⟩
      simp only [Op.bytesLess, UInt8.lt_iff_toNat_lt, List.cons_beq_cons]
      rw [h]
      rcases Nat.lt_trichotomy a.toNat b.toNat with h1 | h1 | h1
      · have h2 : (b == a) = false := beq_eq_false_iff_ne.2 (fun e => by rw [e] at h1; omega)
        have h4 : ¬ b.toNat < a.toNat := by omega
        simp [h1, h2, h4]
      · have h3 := hab.2 h1
        subst h3
        simp
      · have h2 : (a == b) = false := beq_eq_false_iff_ne.2 (fun e => by rw [e] at h1; omega)
        have h4 : ¬ a.toNat < b.toNat := by omega
        simp [h1, h2, h4]
theorem less_irr (x : List UInt8) : Op.bytesLess x x = false := by
  have h := less_gt x x
  simpa using h
theorem list_ba (s t : ByteArray) : s.toList = t.toList ↔ s = t := by
  constructor
  · intro h
    rw [ByteArray.toList_eq, ByteArray.toList_eq] at h
    exact ba_eq h
  · intro h; rw [h]
/-- three ways -/
theorem cmpT_cases (s t : ByteArray) : (Op.bytesLess s.toList t.toList = true ∧ Op.bytesLess t.toList s.toList = false ∧ s ≠ t ∧ cmpT s t = -1) ∨ (Op.bytesLess s.toList t.toList = false ∧ Op.bytesLess t.toList s.toList = false ∧ s = t ∧ cmpT s t = 0) ∨ (Op.bytesLess s.toList t.toList = false ∧ Op.bytesLess t.toList s.toList = true ∧ s ≠ t ∧ cmpT s t = 1) := by
  have h := less_gt s.toList t.toList
  unfold cmpT
  by_cases he : s = t
  · subst he
    rw [less_irr]
    exact Or.inr (Or.inl ⟨rfl, rfl, rfl, rfl⟩)
  · have hb : (s.toList == t.toList) = false := beq_eq_false_iff_ne.2 (fun e => he ((list_ba s t).1 e))
    rw [hb, Bool.or_false] at h
    cases hl : Op.bytesLess s.toList t.toList
    · rw [hl] at h
      rw [h]
      exact Or.inr (Or.inr ⟨rfl, rfl, he, rfl⟩)
    · rw [hl] at h
      rw [h]
      exact Or.inl ⟨rfl, rfl, he, rfl⟩
end Go.Proofs.Ytaahaehgdamkdaa
