/- What may be is small; telltalelaw06.SchemaParses. Conditions: none. -/
import Derived.Test.YtggafdimbddflaaSAwk
namespace Go.Proofs.Ytggafdimbddflaa
open Go Go.RowKit

theorem name_le {s : ByteArray} (h : nameZ s = true) : s.size ≤ 12 := by
  unfold nameZ at h
  rw [Bool.and_eq_true, Bool.and_eq_true, decide_eq_true_iff] at h
  exact h.1.1.2
theorem fields_ok : ∀ (F ahead : List FZ), fieldsZ ahead F = 0 → ∀ f ∈ F, nameZ f.n = true ∧ 1 ≤ f.k ∧ f.k ≤ 4
  | [], _, _, f, hf => by cases hf
  | g :: r, ahead, h, f, hf => by
    unfold fieldsZ at h
    cases hn : nameZ g.n
    · rw [if_pos hn] at h; cases h
    · rw [if_neg (by rw [hn]; decide)] at h
      by_cases hk : g.k < 1 ∨ 4 < g.k
      · rw [if_pos hk] at h; cases h
      · rw [if_neg hk] at h
        split at h
        · cases h
        · rcases List.mem_cons.1 hf with rfl | hf
          · exact ⟨hn, by omega, by omega⟩
          · exact fields_ok r _ h f hf
theorem one_ok {t : TZ} (h : oneZ t = 0) : nameZ t.n = true ∧ t.f.length ≤ 6 ∧ fieldsZ [] t.f = 0 := by
  unfold oneZ at h
  cases hn : nameZ t.n
  · rw [if_pos hn] at h; cases h
  · rw [if_neg (by rw [hn]; decide)] at h
    by_cases h6 : 6 < t.f.length
    · rw [if_pos h6] at h; cases h
    · rw [if_neg h6] at h
      exact ⟨rfl, by omega, h⟩
theorem types_ok : ∀ (L ahead : List TZ), typesZ ahead L = 0 → ∀ t ∈ L, oneZ t = 0
  | [], _, _, t, ht => by cases ht
  | g :: r, ahead, h, t, ht => by
    unfold typesZ at h
    by_cases h1 : oneZ g = 0
    · rw [if_neg (fun e => e h1)] at h
      split at h
      · cases h
      · rcases List.mem_cons.1 ht with rfl | ht
        · exact h1
        · exact types_ok r _ h t ht
    · rw [if_pos h1] at h
      exact absurd h h1
theorem check_small {L : List TZ} (h : checkZ L = 0) : TypesSmall L := by
  unfold checkZ at h
  by_cases h8 : 8 < L.length
  · rw [if_pos h8] at h; cases h
  · rw [if_neg h8] at h
    refine ⟨by omega, fun t ht => ?_⟩
    obtain ⟨h1, h2, h3⟩ := one_ok (types_ok L [] h t ht)
    refine ⟨by have := name_le h1; omega, by omega, fun f hf => ?_⟩
    obtain ⟨q1, q2, q3⟩ := fields_ok t.f [] h3 f hf
    exact ⟨by have := name_le q1; omega, by omega⟩
theorem parse_ok (l : List UInt8) : ((parseZ l).2 = 0 ∧ checkZ (parseZ l).1 = 0 ∧ textZ l = some (parseZ l).1) ∨ ((parseZ l).2 ≠ 0 ∧ (parseZ l).1 = []) := by
  rw [parse_text]
  cases textZ l with
  | none => right; exact ⟨by decide, rfl⟩
  | some ts =>
    show ((if checkZ ts = 0 then (ts, (0 : Int)) else ([], checkZ ts)).2 = 0 ∧ _) ∨ _
    by_cases h : checkZ ts = 0
    · left
      simp only [if_pos h]
      exact ⟨trivial, h, trivial⟩
    · right
      simp only [if_neg h]
      exact ⟨h, trivial⟩
theorem parse_small (l : List UInt8) : TypesSmall (parseZ l).1 := by
  rcases parse_ok l with ⟨_, h, _⟩ | ⟨_, h⟩
  · exact check_small h
  · rw [h]
    exact ⟨Nat.zero_le _, fun t ht => by cases ht⟩

end Go.Proofs.Ytggafdimbddflaa
