/- Sums and differences of values undo each other. Plain; conditions: none. -/
import Derived.Test.YtaahaehgdamkdaaCOrd
import Derived.Test.YtaahaehgdamkdaaBase
import Derived.Test.YtaahaehgdamkdaaVR5
namespace Go.Proofs.Ytaahaehgdamkdaa
open Go Go.RowKit

theorem num_iff (k : Nat) : numK k = true ↔ k = 1 ∨ k = 3 := decide_eq_true_iff
theorem num_not (k : Nat) : numK k = false ↔ ¬ (k = 1 ∨ k = 3) := decide_eq_false_iff_not

theorem plus_cases (k : Nat) (n : Int) (b : Nat) (t : ByteArray) (l : Nat) (m : Int) (c : Nat) (u : ByteArray) :
    (plusV k n b t l m c u = (VZ.none, false) ∧ (checkV k n b t ≠ 0 ∨ checkV l m c u ≠ 0 ∨ numK k = false ∨ numK l = false ∨ (k = 1 ∧ l = 1 ∧ ¬ (-4611686018427387904 ≤ n + m ∧ n + m ≤ 4611686018427387904)))) ∨
    (checkV k n b t = 0 ∧ checkV l m c u = 0 ∧ (k = 1 ∨ k = 3) ∧ (l = 1 ∨ l = 3) ∧ (k = 3 ∨ l = 3) ∧ plusV k n b t l m c u = (ofRealV (addZ (bitsV k n b) (bitsV l m c)), true)) ∨
    (checkV k n b t = 0 ∧ checkV l m c u = 0 ∧ k = 1 ∧ l = 1 ∧ -4611686018427387904 ≤ n + m ∧ n + m ≤ 4611686018427387904 ∧ plusV k n b t l m c u = (⟨1, n + m, 0, noText⟩, true)) := by
  by_cases h : checkV k n b t ≠ 0 ∨ checkV l m c u ≠ 0 ∨ numK k = false ∨ numK l = false
  · left
    refine ⟨if_pos h, ?_⟩
    rcases h with h | h | h | h
    · exact Or.inl h
    · exact Or.inr (Or.inl h)
    · exact Or.inr (Or.inr (Or.inl h))
    · exact Or.inr (Or.inr (Or.inr (Or.inl h)))
  · have hc1 : checkV k n b t = 0 := Decidable.not_not.1 (fun e => h (Or.inl e))
    have hc2 : checkV l m c u = 0 := Decidable.not_not.1 (fun e => h (Or.inr (Or.inl e)))
    have hk : k = 1 ∨ k = 3 := Decidable.not_not.1 (fun e => h (Or.inr (Or.inr (Or.inl ((num_not k).2 e)))))
    have hl : l = 1 ∨ l = 3 := Decidable.not_not.1 (fun e => h (Or.inr (Or.inr (Or.inr ((num_not l).2 e)))))
    by_cases h3 : k = 3 ∨ l = 3
    · right; left
      refine ⟨hc1, hc2, hk, hl, h3, ?_⟩
      unfold plusV
      rw [if_neg h, if_pos h3]
    · have hk1 : k = 1 := by omega
      have hl1 : l = 1 := by omega
      by_cases hr : -4611686018427387904 ≤ n + m ∧ n + m ≤ 4611686018427387904
      · right; right
        refine ⟨hc1, hc2, hk1, hl1, hr.1, hr.2, ?_⟩
        unfold plusV
        rw [if_neg h, if_neg h3, if_pos hr]
      · left
        refine ⟨?_, Or.inr (Or.inr (Or.inr (Or.inr ⟨hk1, hl1, hr⟩)))⟩
        unfold plusV
        rw [if_neg h, if_neg h3, if_neg hr]

theorem plus_turn (k : Nat) (n : Int) (b : Nat) (t : ByteArray) (l : Nat) (m : Int) (c : Nat) (u : ByteArray) : plusV k n b t l m c u = plusV l m c u k n b t := by
  have hs : ∀ A B C D : Prop, (A ∨ B ∨ C ∨ D) → (B ∨ A ∨ D ∨ C) := by
    intro A B C D h
    rcases h with h | h | h | h
    · exact Or.inr (Or.inl h)
    · exact Or.inl h
    · exact Or.inr (Or.inr (Or.inr h))
    · exact Or.inr (Or.inr (Or.inl h))
  unfold plusV
  by_cases h : checkV k n b t ≠ 0 ∨ checkV l m c u ≠ 0 ∨ numK k = false ∨ numK l = false
  · rw [if_pos h, if_pos (hs _ _ _ _ h)]
  · rw [if_neg h, if_neg (c := checkV l m c u ≠ 0 ∨ checkV k n b t ≠ 0 ∨ numK l = false ∨ numK k = false) (fun e => h (hs _ _ _ _ e))]
    by_cases h3 : k = 3 ∨ l = 3
    · rw [if_pos h3, if_pos (Or.symm h3), add_comm']
    · rw [if_neg h3, if_neg (c := l = 3 ∨ k = 3) (fun e => h3 (Or.symm e)), Int.add_comm]

theorem real_may (x : Nat) : checkV 3 0 (cleanZ x) noText = 0 := by
  rw [check_real, if_neg (fun h => h (clean_clean x)), if_neg]
  rintro (h | h)
  · exact h rfl
  · exact h rfl
theorem int_may {n : Int} (h0 : -4611686018427387904 ≤ n) (h1 : n ≤ 4611686018427387904) : checkV 1 n 0 noText = 0 := by
  rw [check_int, if_neg (by omega), if_neg]
  rintro (h | h)
  · exact h rfl
  · exact h rfl

theorem plus_kind {k : Nat} {n : Int} {b : Nat} {t : ByteArray} {l : Nat} {m : Int} {c : Nat} {u : ByteArray} (h : (plusV k n b t l m c u).2 = true) : (plusV k n b t l m c u).1.k = sumK k l := by
  rcases plus_cases k n b t l m c u with ⟨e, _⟩ | ⟨_, _, hk, hl, h3, e⟩ | ⟨_, _, hk, hl, _, _, e⟩
  · rw [e] at h; cases h
  · rw [e]
    have h1 := (num_iff k).2 hk
    have h2 := (num_iff l).2 hl
    unfold sumK
    rw [h1, h2, if_neg (by simp)]
    show 3 = max k l
    omega
  · rw [e]
    subst hk; subst hl
    show 1 = sumK 1 1
    rfl
theorem plus_none {k : Nat} {n : Int} {b : Nat} {t : ByteArray} {l : Nat} {m : Int} {c : Nat} {u : ByteArray} (h : (plusV k n b t l m c u).2 = false) : (plusV k n b t l m c u).1 = VZ.none := by
  rcases plus_cases k n b t l m c u with ⟨e, _⟩ | ⟨_, _, hk, hl, h3, e⟩ | ⟨_, _, hk, hl, _, _, e⟩
  · rw [e]
  · rw [e] at h; cases h
  · rw [e] at h; cases h
theorem plus_may {k : Nat} {n : Int} {b : Nat} {t : ByteArray} {l : Nat} {m : Int} {c : Nat} {u : ByteArray} (h : (plusV k n b t l m c u).2 = true) :
    checkV (plusV k n b t l m c u).1.k (plusV k n b t l m c u).1.n (plusV k n b t l m c u).1.b (plusV k n b t l m c u).1.t = 0 := by
  rcases plus_cases k n b t l m c u with ⟨e, _⟩ | ⟨_, _, hk, hl, h3, e⟩ | ⟨_, _, hk, hl, h0, h1, e⟩
  · rw [e] at h; cases h
  · rw [e]
    exact real_may _
  · rw [e]
    exact int_may h0 h1

theorem neg_may {m : Int} {c : Nat} {u : ByteArray} (h : checkV 1 m c u = 0) : checkV 1 (-m) c u = 0 := by
  have p := check_parts h
  rw [check_int] at h ⊢
  (repeat' split at h) <;> first | (rw [if_neg (by omega), if_neg (by assumption)]; done) | cases h

theorem plus_minus {k : Nat} {n : Int} {b : Nat} {t : ByteArray} {l : Nat} {m : Int} {c : Nat} {u : ByteArray} (h : (plusV k n b t l m c u).2 = true) (h1 : (plusV k n b t l m c u).1.k = 1) :
    minusV (plusV k n b t l m c u).1.k (plusV k n b t l m c u).1.n (plusV k n b t l m c u).1.b (plusV k n b t l m c u).1.t l m c u = (⟨k, n, b, t⟩, true) := by
  rcases plus_cases k n b t l m c u with ⟨e, _⟩ | ⟨_, _, hk, hl, h3, e⟩ | ⟨c1, c2, hk, hl, r0, r1, e⟩
  · rw [e] at h; cases h
  · rw [e] at h1
    have : (3 : Nat) = 1 := h1
    omega
  · rw [e]
    subst hk; subst hl
    have p1 := check_parts c1
    have hb : b = 0 := by omega
    have ht : t = noText := by
      rcases p1 with p | p | p | p
      · exact p.2.2.2.2
      · omega
      · omega
      · omega
    subst hb; subst ht
    show minusV 1 (n + m) 0 noText 1 m c u = _
    unfold minusV
    rw [if_neg (fun h => h c2), if_pos ⟨rfl, rfl⟩]
    rcases plus_cases 1 (n + m) 0 noText 1 (-m) c u with ⟨_, f⟩ | ⟨_, _, _, _, f, _⟩ | ⟨_, _, _, _, _, _, f⟩
    · have q1 := int_may r0 r1
      have q2 := neg_may c2
      have q3 : numK 1 = true := by decide
      rcases f with f | f | f | f | f
      · exact absurd q1 f
      · exact absurd q2 f
      · rw [q3] at f; cases f
      · rw [q3] at f; cases f
      · omega
    · omega
    · rw [f, show n + m + -m = n by omega]

theorem minus_cases {k : Nat} {n : Int} {b : Nat} {t : ByteArray} {l : Nat} {m : Int} {c : Nat} {u : ByteArray} :
    (minusV k n b t l m c u = (VZ.none, false)) ∨ (∃ x, minusV k n b t l m c u = (ofRealV x, true)) ∨
    (checkV k n b t = 0 ∧ checkV l m c u = 0 ∧ k = 1 ∧ l = 1 ∧ -4611686018427387904 ≤ n - m ∧ n - m ≤ 4611686018427387904 ∧ minusV k n b t l m c u = (⟨1, n - m, 0, noText⟩, true)) := by
  by_cases hc : checkV l m c u ≠ 0
  · left; exact if_pos hc
  · by_cases hi : l = 1 ∧ k = 1
    · have e : minusV k n b t l m c u = plusV k n b t l (-m) c u := by unfold minusV; rw [if_neg hc, if_pos hi]
      rw [e]
      rcases plus_cases k n b t l (-m) c u with ⟨f, _⟩ | ⟨_, _, _, _, f, _⟩ | ⟨c1, c2, _, _, r0, r1, f⟩
      · left; exact f
      · omega
      · right; right
        refine ⟨c1, Decidable.not_not.1 hc, hi.2, hi.1, by omega, by omega, ?_⟩
        rw [f, show n + -m = n - m by omega]
    · by_cases hn : numK l = false
      · left; unfold minusV; rw [if_neg hc, if_neg hi, if_pos hn]
      · have e : minusV k n b t l m c u = plusV k n b t 3 0 (negZ (bitsV l m c)) noText := by unfold minusV; rw [if_neg hc, if_neg hi, if_neg hn]
        rw [e]
        rcases plus_cases k n b t 3 0 (negZ (bitsV l m c)) noText with ⟨f, _⟩ | ⟨_, _, _, _, _, f⟩ | ⟨_, _, _, f, _⟩
        · left; exact f
        · right; left; exact ⟨_, f⟩
        · omega
theorem minus_none {k : Nat} {n : Int} {b : Nat} {t : ByteArray} {l : Nat} {m : Int} {c : Nat} {u : ByteArray} (h : (minusV k n b t l m c u).2 = false) : (minusV k n b t l m c u).1 = VZ.none := by
  rcases minus_cases (k := k) (n := n) (b := b) (t := t) (l := l) (m := m) (c := c) (u := u) with e | ⟨x, e⟩ | ⟨_, _, _, _, _, _, e⟩
  · rw [e]
  · rw [e] at h; cases h
  · rw [e] at h; cases h
theorem minus_plus {k : Nat} {n : Int} {b : Nat} {t : ByteArray} {l : Nat} {m : Int} {c : Nat} {u : ByteArray} (h : (minusV k n b t l m c u).2 = true) (h1 : (minusV k n b t l m c u).1.k = 1) :
    plusV (minusV k n b t l m c u).1.k (minusV k n b t l m c u).1.n (minusV k n b t l m c u).1.b (minusV k n b t l m c u).1.t l m c u = (⟨k, n, b, t⟩, true) := by
  rcases minus_cases (k := k) (n := n) (b := b) (t := t) (l := l) (m := m) (c := c) (u := u) with e | ⟨x, e⟩ | ⟨c1, c2, hk, hl, r0, r1, e⟩
  · rw [e] at h; cases h
  · rw [e] at h1
    have : (3 : Nat) = 1 := h1
    omega
  · rw [e]
    subst hk; subst hl
    have p1 := check_parts c1
    have hb : b = 0 := by omega
    have ht : t = noText := by
      rcases p1 with p | p | p | p
      · exact p.2.2.2.2
      · omega
      · omega
      · omega
    subst hb; subst ht
    show plusV 1 (n - m) 0 noText 1 m c u = _
    rcases plus_cases 1 (n - m) 0 noText 1 m c u with ⟨_, f⟩ | ⟨_, _, _, _, f, _⟩ | ⟨_, _, _, _, _, _, f⟩
    · have q1 := int_may r0 r1
      have q3 : numK 1 = true := by decide
      rcases f with f | f | f | f | f
      · exact absurd q1 f
      · exact absurd c2 f
      · rw [q3] at f; cases f
      · rw [q3] at f; cases f
      · have := p1; omega
    · omega
    · rw [f, show n - m + m = n by omega]
end Go.Proofs.Ytaahaehgdamkdaa
