/- The order of texts and of values. Plain; conditions: none. -/
import Derived.Test.YtkblpbpmaoofgaaVSpec
namespace Go.Proofs.Ytkblpbpmaoofgaa
open Go Go.RowKit

theorem less_gt : ∀ x y : List UInt8, Op.bytesLess y x = !(Op.bytesLess x y || x == y) := by
  intro x
  induction x with
  | nil => intro y; cases y <;> rfl
  | cons a x ih =>
    intro y
    cases y with
    | nil => rfl
    | cons b y =>
      have h := ih y
      have hab : a = b ↔ a.toNat = b.toNat := ⟨fun h => by rw [h], fun h => UInt8.toNat_inj.1 h⟩
      simp only [Op.bytesLess, UInt8.lt_iff_toNat_lt, List.cons_beq_cons]
      rw [h]
      rcases Nat.lt_trichotomy a.toNat b.toNat with h1 | h1 | h1
      · have h2 : (b == a) = false := beq_eq_false_iff_ne.2 (fun e => by rw [e] at h1; omega)
        have h4 : ¬ b.toNat < a.toNat := by omega
        simp [h1, h2, h4]
      · have h3 := hab.2 h1
        subst h3
        simp
      · have h2 : (a == b) = false := beq_eq_false_iff_ne.2 (fun e => by rw [e] at h1; omega)
        have h4 : ¬ a.toNat < b.toNat := by omega
        simp [h1, h2, h4]
theorem less_irr (x : List UInt8) : Op.bytesLess x x = false := by
  have h := less_gt x x
  simpa using h
theorem less_trans : ∀ x y z : List UInt8, Op.bytesLess x y = true → Op.bytesLess y z = true → Op.bytesLess x z = true := by
  intro x
  induction x with
  | nil =>
    intro y z _ h2
    cases z with
    | nil => cases y <;> simp [Op.bytesLess] at h2
    | cons c z => rfl
  | cons a x ih =>
    intro y z h1 h2
    cases y with
    | nil => simp [Op.bytesLess] at h1
    | cons b y =>
      cases z with
      | nil => simp [Op.bytesLess] at h2
      | cons c z =>
        simp only [Op.bytesLess, UInt8.lt_iff_toNat_lt, Bool.or_eq_true, decide_eq_true_iff, Bool.and_eq_true, beq_iff_eq] at h1 h2 ⊢
        rcases h1 with h1 | ⟨rfl, h1⟩
        · rcases h2 with h2 | ⟨rfl, h2⟩
          · exact Or.inl (by omega)
          · exact Or.inl h1
        · rcases h2 with h2 | ⟨rfl, h2⟩
          · exact Or.inl h2
          · exact Or.inr ⟨rfl, ih y z h1 h2⟩

theorem list_ba (s t : ByteArray) : s.toList = t.toList ↔ s = t := by
  constructor
  · intro h
    rw [ByteArray.toList_eq, ByteArray.toList_eq] at h
    exact ba_eq h
  · intro h; rw [h]
/-- three ways -/
theorem cmpT_cases (s t : ByteArray) : (Op.bytesLess s.toList t.toList = true ∧ Op.bytesLess t.toList s.toList = false ∧ s ≠ t ∧ cmpT s t = -1) ∨ (Op.bytesLess s.toList t.toList = false ∧ Op.bytesLess t.toList s.toList = false ∧ s = t ∧ cmpT s t = 0) ∨ (Op.bytesLess s.toList t.toList = false ∧ Op.bytesLess t.toList s.toList = true ∧ s ≠ t ∧ cmpT s t = 1) := by
  have h := less_gt s.toList t.toList
  unfold cmpT
  by_cases he : s = t
  · subst he
    rw [less_irr]
    exact Or.inr (Or.inl ⟨rfl, rfl, rfl, rfl⟩)
  · have hb : (s.toList == t.toList) = false := beq_eq_false_iff_ne.2 (fun e => he ((list_ba s t).1 e))
    rw [hb, Bool.or_false] at h
    cases hl : Op.bytesLess s.toList t.toList
    · rw [hl] at h
      rw [h]
      exact Or.inr (Or.inr ⟨rfl, rfl, he, rfl⟩)
    · rw [hl] at h
      rw [h]
      exact Or.inl ⟨rfl, rfl, he, rfl⟩
theorem cmpT_turn (s t : ByteArray) : cmpT t s = -cmpT s t := by
  rcases cmpT_cases s t with ⟨a, b, _, d⟩ | ⟨a, b, _, d⟩ | ⟨a, b, _, d⟩ <;> rw [d] <;> unfold cmpT <;> rw [a, b] <;> rfl
theorem cmpT_zero (s t : ByteArray) : cmpT s t = 0 ↔ s = t := by
  rcases cmpT_cases s t with ⟨_, _, c, d⟩ | ⟨_, _, c, d⟩ | ⟨_, _, c, d⟩ <;> rw [d] <;> simp [c]
theorem cmpT_bound (s t : ByteArray) : -1 ≤ cmpT s t ∧ cmpT s t ≤ 1 := by
  rcases cmpT_cases s t with ⟨_, _, _, d⟩ | ⟨_, _, _, d⟩ | ⟨_, _, _, d⟩ <;> rw [d] <;> decide
theorem cmpT_le (s t u : ByteArray) (h1 : cmpT s t ≤ 0) (h2 : cmpT t u ≤ 0) : cmpT s u ≤ 0 ∧ (cmpT s t < 0 ∨ cmpT t u < 0 → cmpT s u < 0) := by
  rcases cmpT_cases s t with ⟨a, _, _, d⟩ | ⟨_, _, c, d⟩ | ⟨_, _, _, d⟩
  · rcases cmpT_cases t u with ⟨a', _, _, d'⟩ | ⟨_, _, c', d'⟩ | ⟨_, _, _, d'⟩
    · have h := less_trans _ _ _ a a'
      have : cmpT s u = -1 := by unfold cmpT; rw [h]; rfl
      omega
    · rw [← c']; omega
    · omega
  · subst c
    have := (cmpT_zero s s).2 rfl
    omega
  · omega

theorem rank_bound (k : Nat) (n : Int) (b : Nat) (t : ByteArray) (l : Nat) (m : Int) (c : Nat) (u : ByteArray) : -1 ≤ rankV k n b t l m c u ∧ rankV k n b t l m c u ≤ 1 := by
  have h1 := cmp_bound n m
  have h2 := cmp_bound (rankZ b : Int) (rankZ c : Int)
  have h3 := cmpT_bound t u
  unfold rankV
  (repeat' split) <;> omega
theorem cmpI_turn (x y : Int) : cmpI y x = -cmpI x y := by
  unfold cmpI
  (repeat' split) <;> omega
theorem cmpI_self (x : Int) : cmpI x x = 0 := cmp_eq rfl
theorem cmpI_le (x y z : Int) (h1 : cmpI x y ≤ 0) (h2 : cmpI y z ≤ 0) : cmpI x z ≤ 0 ∧ (cmpI x y < 0 ∨ cmpI y z < 0 → cmpI x z < 0) := by
  unfold cmpI at *
  (repeat' split at *) <;> omega
theorem rank_turn (k : Nat) (n : Int) (b : Nat) (t : ByteArray) (l : Nat) (m : Int) (c : Nat) (u : ByteArray) : rankV l m c u k n b t = -rankV k n b t l m c u := by
  have h1 := cmpI_turn n m
  have h2 := cmpI_turn (rankZ b : Int) (rankZ c : Int)
  have h3 := cmpT_turn t u
  unfold rankV
  by_cases hkl : k = l
  · subst hkl
    simp only [ne_eq, not_true_eq_false, if_false]
    (repeat' split) <;> first | exact h1 | exact h2 | exact h3 | rfl
  · rw [if_pos hkl, if_pos (Ne.symm hkl)]
    (repeat' split) <;> omega
theorem rank_self (k : Nat) (n : Int) (b : Nat) (t : ByteArray) : rankV k n b t k n b t = 0 := by
  have h1 := cmpI_self n
  have h2 := cmpI_self (rankZ b : Int)
  have h3 := (cmpT_zero t t).2 rfl
  unfold rankV
  simp only [ne_eq, not_true_eq_false, if_false]
  (repeat' split) <;> first | assumption | rfl
theorem rank_le (k : Nat) (n : Int) (b : Nat) (t : ByteArray) (l : Nat) (m : Int) (c : Nat) (u : ByteArray) (j : Nat) (i : Int) (d : Nat) (v : ByteArray)
    (h1 : rankV k n b t l m c u ≤ 0) (h2 : rankV l m c u j i d v ≤ 0) : rankV k n b t j i d v ≤ 0 ∧ (rankV k n b t l m c u < 0 ∨ rankV l m c u j i d v < 0 → rankV k n b t j i d v < 0) := by
  have e1 := cmpI_le n m i
  have e2 := cmpI_le (rankZ b : Int) (rankZ c : Int) (rankZ d : Int)
  have e3 := cmpT_le t u v
  unfold rankV at *
  by_cases hkl : k = l
  · subst hkl
    by_cases hkj : k = j
    · subst hkj
      simp only [ne_eq, not_true_eq_false, if_false] at *
      by_cases a1 : k = 1 ∨ k = 2
      · simp only [if_pos a1] at *; exact e1 h1 h2
      · simp only [if_neg a1] at *
        by_cases a2 : k = 3
        · simp only [if_pos a2] at *; exact e2 h1 h2
        · simp only [if_neg a2] at *
          by_cases a3 : k = 4
          · simp only [if_pos a3] at *; exact e3 h1 h2
          · simp only [if_neg a3] at *; omega
    · simp only [ne_eq, not_true_eq_false, if_false, hkj, not_false_eq_true, if_true] at *
      by_cases a : k < j
      · simp only [if_pos a] at *; omega
      · simp only [if_neg a] at *; omega
  · by_cases hlj : l = j
    · subst hlj
      simp only [ne_eq, not_true_eq_false, if_false, hkl, not_false_eq_true, if_true] at *
      by_cases a : k < l
      · simp only [if_pos a] at *; omega
      · simp only [if_neg a] at *; omega
    · have : k < l := by
        rcases Nat.lt_or_ge k l with h | h
        · exact h
        · rw [if_pos hkl, if_neg (by omega)] at h1; omega
      have : l < j := by
        rcases Nat.lt_or_ge l j with h | h
        · exact h
        · rw [if_pos hlj, if_neg (by omega)] at h2; omega
      rw [if_pos (show k ≠ j by omega), if_pos (show k < j by omega)]
      omega

end Go.Proofs.Ytkblpbpmaoofgaa
