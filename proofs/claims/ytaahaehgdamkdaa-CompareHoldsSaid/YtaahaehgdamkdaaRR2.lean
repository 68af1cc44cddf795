/- The document's sums, rounded, by their contracts. Conditions: none. -/
import Derived.Test.YtaahaehgdamkdaaRR1
import Derived.Deep.CutRange
namespace Go.Proofs.Ytaahaehgdamkdaa
open Go Go.RowKit

theorem less_words (a b : Nat) (ha : a ≤ 18446744073709551615) (hb : b ≤ 18446744073709551615) (ka : kindZ a ≠ 5) (kb : kindZ b ≠ 5) :
    lessZ a b = (!equalZ a b && decide (rankZ a < rankZ b)) := by
  rw [Bool.eq_iff_iff, less_true]
  simp only [Bool.and_eq_true, Bool.not_eq_true', decide_eq_true_eq, Bool.eq_false_iff, ne_eq, equal_true]
  constructor
  · rintro ⟨_, _, h⟩
    exact ⟨fun h2 => by omega, rank_lt (by omega) (by omega) ka kb h⟩
  · rintro ⟨h1, h2⟩
    refine ⟨ka, kb, ?_⟩
    rcases Int.lt_trichotomy (srkZ a) (srkZ b) with h3 | h3 | h3
    · exact h3
    · exact absurd ⟨ka, kb, h3⟩ h1
    · have := rank_lt (by omega) (by omega) kb ka h3; omega

set_option maxHeartbeats 800000 in
theorem rless_any (a b : Nat) (w : World) (ha : a ≤ 18446744073709551615) (hb : b ≤ 18446744073709551615) : Calls Try.prog 56 #[.int .u64 (a : Int), .int .u64 (b : Int)] w (Just w (.bool (lessZ a b))) := by
  have h1 := fun W => rkind_any a W ha
  have h2 := fun W => rkind_any b W hb
  have h3 := fun W => rrank_any a W ha
  have h4 := fun W => rrank_any b W hb
  have h5 := fun W => requal_any a b W ha hb
  have hka := kind_le a
  have hkb := kind_le b
  have hra : rankZ a ≤ 18446744073709551615 := by have := clean_lt (u := a) (by omega); unfold rankZ; split <;> omega
  have hrb : rankZ b ≤ 18446744073709551615 := by have := clean_lt (u := b) (by omega); unfold rankZ; split <;> omega
  have hn : kindZ a = 5 ∨ kindZ b = 5 → lessZ a b = false := by
    intro h
    rw [Bool.eq_false_iff]
    intro h3
    have := less_true.1 h3
    omega
  have hw := less_words a b ha hb
  generalize lessZ a b = E at *
  generalize equalZ a b = Q at *
  generalize rankZ a = ra at *
  generalize rankZ b = rb at *
  generalize kindZ a = x at *
  generalize kindZ b = y at *
  by_cases hxy : x = 5 ∨ y = 5
  · have HE := hid (hn hxy)
    clear hn hw
    rcases hxy with hx | hy
    · go_enter Try.func56, Try.ntmps56
      go_wp2_with (first | ((with_reducible show Calls _ 62 #[.int .u64 (a : Int)] _ _); refine (h1 _).mono ?_; rintro e w1 ⟨rfl, rfl⟩) | ((with_reducible show Calls _ 62 #[.int .u64 (b : Int)] _ _); refine (h2 _).mono ?_; rintro e w1 ⟨rfl, rfl⟩) | ((with_reducible show Calls _ 83 #[.int .u64 (a : Int)] _ _); refine (h3 _).mono ?_; rintro e w1 ⟨rfl, rfl⟩) | ((with_reducible show Calls _ 83 #[.int .u64 (b : Int)] _ _); refine (h4 _).mono ?_; rintro e w1 ⟨rfl, rfl⟩) | ((with_reducible show Calls _ 57 _ _ _); refine (h5 _).mono ?_; rintro e w1 ⟨rfl, rfl⟩))
      all_goals go_ret
      all_goals exact Just.mk_bool HE.out.symm
    · by_cases hx : x = 5
      all_goals
        go_enter Try.func56, Try.ntmps56
        go_wp2_with (first | ((with_reducible show Calls _ 62 #[.int .u64 (a : Int)] _ _); refine (h1 _).mono ?_; rintro e w1 ⟨rfl, rfl⟩) | ((with_reducible show Calls _ 62 #[.int .u64 (b : Int)] _ _); refine (h2 _).mono ?_; rintro e w1 ⟨rfl, rfl⟩) | ((with_reducible show Calls _ 83 #[.int .u64 (a : Int)] _ _); refine (h3 _).mono ?_; rintro e w1 ⟨rfl, rfl⟩) | ((with_reducible show Calls _ 83 #[.int .u64 (b : Int)] _ _); refine (h4 _).mono ?_; rintro e w1 ⟨rfl, rfl⟩) | ((with_reducible show Calls _ 57 _ _ _); refine (h5 _).mono ?_; rintro e w1 ⟨rfl, rfl⟩))
        all_goals go_ret
        all_goals exact Just.mk_bool HE.out.symm
  · have hx : ¬ x = 5 := by omega
    have hy : ¬ y = 5 := by omega
    have HW := hid (hw hx hy)
    have hxb : ((x : Int) == 5) = false := by rw [beq_eq_false_iff_ne]; omega
    have hyb : ((y : Int) == 5) = false := by rw [beq_eq_false_iff_ne]; omega
    clear hn hw hxy
    cases Q
    all_goals
      go_enter Try.func56, Try.ntmps56
      go_wp2_with (first | ((with_reducible show Calls _ 62 #[.int .u64 (a : Int)] _ _); refine (h1 _).mono ?_; rintro e w1 ⟨rfl, rfl⟩) | ((with_reducible show Calls _ 62 #[.int .u64 (b : Int)] _ _); refine (h2 _).mono ?_; rintro e w1 ⟨rfl, rfl⟩) | ((with_reducible show Calls _ 83 #[.int .u64 (a : Int)] _ _); refine (h3 _).mono ?_; rintro e w1 ⟨rfl, rfl⟩) | ((with_reducible show Calls _ 83 #[.int .u64 (b : Int)] _ _); refine (h4 _).mono ?_; rintro e w1 ⟨rfl, rfl⟩) | ((with_reducible show Calls _ 57 _ _ _); refine (h5 _).mono ?_; rintro e w1 ⟨rfl, rfl⟩))
      all_goals go_ret
      all_goals exact Just.mk_bool (by rw [HW.out]; simp)

set_option maxHeartbeats 400000 in
theorem rscale_any (u : Nat) (w : World) (hu : u ≤ 18446744073709551615) : Calls Try.prog 63 #[.int .u64 (u : Int)] w (Just w (.int .i64 (scaleZ u : Int))) := by
  have h1 := fun W => rexp_any u W hu
  have hs : scaleZ u = max 1 (exZ u) := rfl
  have hx := ex_lt u
  generalize exZ u = x at *
  have HS := hid hs
  clear hs
  go_enter Try.func63, Try.ntmps63
  go_wp2_with ((with_reducible show Calls _ 84 _ _ _); refine (h1 _).mono ?_; rintro e w1 ⟨rfl, rfl⟩)
  all_goals go_ret
  all_goals exact Just.mk_int (by rw [HS.out]; omega)

set_option maxHeartbeats 400000 in
theorem rman_any (u : Nat) (w : World) (hu : u ≤ 18446744073709551615) : Calls Try.prog 64 #[.int .u64 (u : Int)] w (Just w (.int .u64 (manZ u : Int))) := by
  have h1 := fun W => rexp_any u W hu
  have h2 := fun W => rfrac_any u W hu
  have hs : manZ u = if exZ u = 0 then frZ u else 4503599627370496 + frZ u := rfl
  have hx := ex_lt u
  have hf := fr_lt u
  generalize exZ u = x at *
  generalize frZ u = f at *
  have HS := hid hs
  clear hs
  by_cases hx0 : x = 0
  all_goals
    go_enter Try.func64, Try.ntmps64
    go_wp2_with (first | ((with_reducible show Calls _ 84 _ _ _); refine (h1 _).mono ?_; rintro e w1 ⟨rfl, rfl⟩) | ((with_reducible show Calls _ 85 _ _ _); refine (h2 _).mono ?_; rintro e w1 ⟨rfl, rfl⟩))
    go_ret
    exact Just.mk_int (by rw [HS.out]; split <;> omega)

end Go.Proofs.Ytaahaehgdamkdaa
