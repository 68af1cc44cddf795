/- The document's number, Fits, Sum, Sign, by their contracts. Conditions: numbers within their kinds. -/
import Derived.Test.YtaahaehgdamkdaaCSpec
import Derived.Test.YtaahaehgdamkdaaVR1
import Derived.Test.YtaahaehgdamkdaaVOrd
import Derived.BigQuiet
namespace Go.Proofs.Ytaahaehgdamkdaa
open Go Go.RowKit

theorem rnumber_any (k : Nat) (w : World) : Calls Try.prog 35 #[.int .u8 (k : Int)] w (Just w (.bool (numK k))) := by
  by_cases h1 : k = 1
  · subst h1
    go_enter Try.func35, Try.ntmps35
    go_wp2
    go_ret
    exact Just.mk_bool rfl
  · have h1' : ((k : Int) == 1) = false := beq_eq_false_iff_ne.2 (by omega)
    by_cases h3 : k = 3
    · subst h3
      go_enter Try.func35, Try.ntmps35
      go_wp2
      go_ret
      exact Just.mk_bool rfl
    · have h3' : ((k : Int) == 3) = false := beq_eq_false_iff_ne.2 (by omega)
      have hr : numK k = false := decide_eq_false (by omega)
      rw [hr]
      clear h1 h3 hr
      go_enter Try.func35, Try.ntmps35
      go_wp2
      go_ret
      exact Just.mk_bool rfl

set_option maxHeartbeats 1000000 in
theorem rsum_any (k l : Nat) (w : World) : Calls Try.prog 24 #[.int .u8 (k : Int), .int .u8 (l : Int)] w (Says w (.int .u8 (sumK k l : Int))) := by
  have hk := fun W => rnumber_any k W
  have hl := fun W => rnumber_any l W
  have hs : sumK k l = if numK k = false ∨ numK l = false then 0 else max k l := rfl
  generalize sumK k l = S at *
  cases h1 : numK k
  · rw [h1] at hk
    rw [if_pos (Or.inl h1)] at hs
    subst hs
    clear h1 hl
    go_enter Try.func24, Try.ntmps24
    go_wp2_with ((with_reducible show Calls _ 35 _ _ _); refine (hk _).mono ?_; rintro e w1 ⟨rfl, rfl⟩)
    go_ret
    exact ⟨rfl, Ext.refl _⟩
  · cases h2 : numK l
    · rw [h1] at hk
      rw [h2] at hl
      rw [if_pos (Or.inr h2)] at hs
      subst hs
      clear h1 h2
      go_enter Try.func24, Try.ntmps24
      go_wp2_with fail
      refine (hk _).mono ?_
      rintro e w1 ⟨rfl, rfl⟩
      go_wp2_with fail
      refine (hl _).mono ?_
      rintro e w1 ⟨rfl, rfl⟩
      go_wp2_with fail
      go_ret
      exact ⟨rfl, Ext.refl _⟩
    · rw [h1] at hk
      rw [h2] at hl
      rw [if_neg (by rw [h1, h2]; simp)] at hs
      clear h1 h2
      go_enter Try.func24, Try.ntmps24
      go_wp2_with fail
      refine (hk _).mono ?_
      rintro e w1 ⟨rfl, rfl⟩
      go_wp2_with fail
      refine (hl _).mono ?_
      rintro e w1 ⟨rfl, rfl⟩
      go_wp2_with fail
      all_goals go_ret
      all_goals exact Says.mk_int (by omega) (Ext.refl _)

theorem num_cases (k : Nat) : (numK k = true ∧ (k = 1 ∨ k = 3)) ∨ (numK k = false ∧ k ≠ 1 ∧ k ≠ 3) := by
  unfold numK
  by_cases h : k = 1 ∨ k = 3
  · exact Or.inl ⟨decide_eq_true h, h⟩
  · exact Or.inr ⟨decide_eq_false h, by omega, by omega⟩

set_option maxHeartbeats 2000000 in
theorem rfits_any (o k l : Nat) (w : World) : Calls Try.prog 22 #[.int .u8 (o : Int), .int .u8 (k : Int), .int .u8 (l : Int)] w (Says w (.bool (fitsV o k l))) := by
  have hk := fun W => rnumber_any k W
  have hl := fun W => rnumber_any l W
  by_cases ho : o < 1 ∨ 6 < o
  · have hr : fitsV o k l = false := if_pos ho
    rw [hr]
    rcases ho with ho | ho
    all_goals
      go_enter Try.func22, Try.ntmps22
      go_wp2_with fail
      go_ret
      exact ⟨rfl, Ext.refl _⟩
  · have ho1 : 1 ≤ (o : Int) := by omega
    have ho6 : (o : Int) ≤ 6 := by omega
    have hf : fitsV o k l = if (numK k = true ∧ numK l = true) ∨ (k = 4 ∧ l = 4) then true else decide (k = 2 ∧ l = 2 ∧ o ≤ 2) := if_neg ho
    generalize fitsV o k l = F at *
    clear ho
    rcases num_cases k with ⟨h1, h2⟩ | ⟨h1, h2, h3⟩
    · rw [h1] at hk hf
      rcases num_cases l with ⟨h4, h5⟩ | ⟨h4, h5, h6⟩
      · rw [h4] at hl hf
        rw [if_pos (Or.inl ⟨rfl, rfl⟩)] at hf
        subst hf
        clear h1 h2 h4 h5
        go_enter Try.func22, Try.ntmps22
        go_wp2_with fail
        refine (hk _).mono ?_
        rintro e w1 ⟨rfl, rfl⟩
        go_wp2_with fail
        refine (hl _).mono ?_
        rintro e w1 ⟨rfl, rfl⟩
        go_wp2_with fail
        go_ret
        exact ⟨rfl, Ext.refl _⟩
      · rw [h4] at hl hf
        rw [if_neg (by rintro (⟨_, h⟩ | ⟨h, _⟩); exact Bool.noConfusion h; omega), decide_eq_false (by omega)] at hf
        subst hf
        have a4 : ((k : Int) == 4) = false := beq_eq_false_iff_ne.2 (by omega)
        have a2 : ((k : Int) == 2) = false := beq_eq_false_iff_ne.2 (by omega)
        clear h1 h2 h4 h5 h6
        go_enter Try.func22, Try.ntmps22
        go_wp2_with fail
        refine (hk _).mono ?_
        rintro e w1 ⟨rfl, rfl⟩
        go_wp2_with fail
        refine (hl _).mono ?_
        rintro e w1 ⟨rfl, rfl⟩
        go_wp2_with fail
        go_ret
        exact ⟨rfl, Ext.refl _⟩
    · rw [h1] at hk hf
      have hf' : F = decide ((k = 4 ∧ l = 4) ∨ (k = 2 ∧ l = 2 ∧ o ≤ 2)) := by
        rw [hf, Bool.eq_iff_iff]
        by_cases h44 : k = 4 ∧ l = 4
        · rw [if_pos (Or.inr h44)]
          simp [h44]
        · rw [if_neg (by rintro (⟨h, _⟩ | h); exact Bool.noConfusion h; exact h44 h), decide_eq_true_iff, decide_eq_true_iff]
          constructor
          · intro h; exact Or.inr h
          · rintro (h | h)
            · exact absurd h h44
            · exact h
      clear hf hl h1
      go_enter Try.func22, Try.ntmps22
      go_wp2_with fail
      refine (hk _).mono ?_
      rintro e w1 ⟨rfl, rfl⟩
      go_wp2_with fail
      all_goals go_ret
      all_goals refine ⟨?_, Ext.refl _⟩
      all_goals rw [hf']
      all_goals refine congrArg (fun b => Ending.returned (Value.bool b)) (?_ : (_ : Bool) = _)
      all_goals rw [Bool.eq_iff_iff, decide_eq_true_iff]
      all_goals simp only [beq_iff_eq, beq_eq_false_iff_ne, ne_eq, decide_eq_true_eq, Bool.false_eq_true, false_iff, true_iff] at *
      all_goals omega
end Go.Proofs.Ytaahaehgdamkdaa
