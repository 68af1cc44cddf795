/- The document's doubles, by their contracts: what they are, ranks, order, signs. Conditions: none. -/
import Derived.Test.YtaahaehgdamkdaaBase
namespace Go.Proofs.Ytaahaehgdamkdaa
open Go Go.RowKit

set_option maxHeartbeats 400000 in
theorem rexp_any (u : Nat) (w : World) (hu : u ≤ 18446744073709551615) : Calls Try.prog 84 #[.int .u64 (u : Int)] w (Just w (.int .i64 (exZ u : Int))) := by
  go_enter Try.func84, Try.ntmps84
  go_wp2_with fail
  go_ret
  exact Just.mk_int (by unfold exZ; omega)

set_option maxHeartbeats 400000 in
theorem rfrac_any (u : Nat) (w : World) (hu : u ≤ 18446744073709551615) : Calls Try.prog 85 #[.int .u64 (u : Int)] w (Just w (.int .u64 (frZ u : Int))) := by
  go_enter Try.func85, Try.ntmps85
  go_wp2_with fail
  go_ret
  exact Just.mk_int (by unfold frZ; omega)

set_option maxHeartbeats 400000 in
theorem rsign_any (u : Nat) (w : World) : Calls Try.prog 66 #[.int .u64 (u : Int)] w (Just w (.bool (sgZ u))) := by
  go_enter Try.func66, Try.ntmps66
  go_wp2_with fail
  go_ret
  refine Just.mk_bool ?_
  unfold sgZ
  exact decide_eq_decide.2 (by omega)

set_option maxHeartbeats 400000 in
theorem rkind_any (u : Nat) (w : World) (hu : u ≤ 18446744073709551615) : Calls Try.prog 62 #[.int .u64 (u : Int)] w (Just w (.int .u8 (kindZ u : Int))) := by
  have h1 := fun W => rexp_any u W hu
  have h2 := fun W => rfrac_any u W hu
  have hx := ex_lt u
  have hf := fr_lt u
  have hk : kindZ u = if exZ u = 2047 ∧ frZ u ≠ 0 then 5 else if exZ u = 2047 then 4 else if exZ u ≠ 0 then 3 else if frZ u ≠ 0 then 2 else 1 := rfl
  generalize exZ u = x at *
  generalize frZ u = f at *
  have HK := hid hk
  clear hk
  by_cases hx1 : x = 2047 <;> by_cases hf1 : f = 0 <;> by_cases hx0 : x = 0
  all_goals first
    | (exfalso; omega)
    | (go_enter Try.func62, Try.ntmps62
       go_wp2_with (first | ((with_reducible show Calls _ 84 _ _ _); refine (h1 _).mono ?_; rintro e w1 ⟨rfl, rfl⟩) | ((with_reducible show Calls _ 85 _ _ _); refine (h2 _).mono ?_; rintro e w1 ⟨rfl, rfl⟩))
       go_ret
       exact Just.mk_int (by rw [HK.out]; (repeat' split) <;> omega))

theorem kind_le (u : Nat) : kindZ u ≤ 5 := by unfold kindZ; (repeat' split) <;> omega

set_option maxHeartbeats 400000 in
theorem rclean_any (u : Nat) (w : World) (hu : u ≤ 18446744073709551615) : Calls Try.prog 54 #[.int .u64 (u : Int)] w (Just w (.int .u64 (cleanZ u : Int))) := by
  have h1 := fun W => rkind_any u W hu
  have hk5 := kind_le u
  have hc : cleanZ u = if kindZ u = 5 then 9221120237041090560 else u := rfl
  generalize kindZ u = k at *
  have HC := hid hc
  clear hc
  by_cases hk : k = 5
  all_goals
    go_enter Try.func54, Try.ntmps54
    go_wp2_with ((with_reducible show Calls _ 62 _ _ _); refine (h1 _).mono ?_; rintro e w1 ⟨rfl, rfl⟩)
    go_ret
    exact Just.mk_int (by rw [HC.out]; split <;> omega)

set_option maxHeartbeats 400000 in
theorem rrank_any (u : Nat) (w : World) (hu : u ≤ 18446744073709551615) : Calls Try.prog 83 #[.int .u64 (u : Int)] w (Just w (.int .u64 (rankZ u : Int))) := by
  have h1 := fun W => rclean_any u W hu
  have hcl := clean_lt (u := u) (by omega)
  have hr : rankZ u = if 9223372036854775808 ≤ cleanZ u then 18446744073709551615 - cleanZ u else cleanZ u + 9223372036854775808 := rfl
  generalize cleanZ u = c at *
  have h2 := fun W => rsign_any c W
  have hs : sgZ c = decide (9223372036854775808 ≤ c) := rfl
  have HR := hid hr
  clear hr
  by_cases hc : 9223372036854775808 ≤ c
  · rw [hs, decide_eq_true hc] at h2
    go_enter Try.func83, Try.ntmps83
    go_wp2_with (first | ((with_reducible show Calls _ 54 _ _ _); refine (h1 _).mono ?_; rintro e w1 ⟨rfl, rfl⟩) | ((with_reducible show Calls _ 66 _ _ _); refine (h2 _).mono ?_; rintro e w1 ⟨rfl, rfl⟩))
    go_ret
    exact Just.mk_int (by rw [HR.out, if_pos hc, u64_not (by omega) (by omega)]; omega)
  · rw [hs, decide_eq_false hc] at h2
    go_enter Try.func83, Try.ntmps83
    go_wp2_with (first | ((with_reducible show Calls _ 54 _ _ _); refine (h1 _).mono ?_; rintro e w1 ⟨rfl, rfl⟩) | ((with_reducible show Calls _ 66 _ _ _); refine (h2 _).mono ?_; rintro e w1 ⟨rfl, rfl⟩))
    go_ret
    exact Just.mk_int (by rw [HR.out, if_neg hc]; omega)

/-- equal, in the reference's own words -/
theorem equal_words (a b : Nat) (ha : a ≤ 18446744073709551615) (hb : b ≤ 18446744073709551615) (ka : kindZ a ≠ 5) (kb : kindZ b ≠ 5) :
    equalZ a b = (decide (a = b) || (decide (kindZ a = 1) && decide (kindZ b = 1))) := by
  have wa := sg_of (u := a) (by omega)
  have wb := sg_of (u := b) (by omega)
  have za := @kind_zero a
  have zb := @kind_zero b
  have ra := rung_bound a
  have rb := rung_bound b
  rw [Bool.eq_iff_iff, equal_true]
  simp only [Bool.or_eq_true, Bool.and_eq_true, decide_eq_true_eq]
  constructor
  · rintro ⟨_, _, h⟩
    unfold srkZ at h
    revert h wa wb
    cases sgZ a <;> cases sgZ b <;> simp only [if_true, if_false, Bool.false_eq_true] <;> omega
  · rintro (h | ⟨h1, h2⟩)
    · rw [h]; exact ⟨kb, kb, rfl⟩
    · refine ⟨ka, kb, ?_⟩
      unfold srkZ
      rw [za.1 h1, zb.1 h2]
      cases sgZ a <;> cases sgZ b <;> rfl

set_option maxHeartbeats 800000 in
theorem requal_any (a b : Nat) (w : World) (ha : a ≤ 18446744073709551615) (hb : b ≤ 18446744073709551615) : Calls Try.prog 57 #[.int .u64 (a : Int), .int .u64 (b : Int)] w (Just w (.bool (equalZ a b))) := by
  have h1 := fun W => rkind_any a W ha
  have h2 := fun W => rkind_any b W hb
  have hka := kind_le a
  have hkb := kind_le b
  have hn : kindZ a = 5 ∨ kindZ b = 5 → equalZ a b = false := by
    intro h
    rw [Bool.eq_false_iff]
    intro h3
    have := equal_true.1 h3
    omega
  have hw := equal_words a b ha hb
  generalize equalZ a b = E at *
  generalize kindZ a = x at *
  generalize kindZ b = y at *
  by_cases hx : x = 5
  · have HE := hid (hn (Or.inl hx))
    clear hn hw
    go_enter Try.func57, Try.ntmps57
    go_wp2_with (first | ((with_reducible show Calls _ 62 #[.int .u64 (a : Int)] _ _); refine (h1 _).mono ?_; rintro e w1 ⟨rfl, rfl⟩) | ((with_reducible show Calls _ 62 #[.int .u64 (b : Int)] _ _); refine (h2 _).mono ?_; rintro e w1 ⟨rfl, rfl⟩))
    go_ret
    exact Just.mk_bool HE.out.symm
  · by_cases hy : y = 5
    · have HE := hid (hn (Or.inr hy))
      clear hn hw
      go_enter Try.func57, Try.ntmps57
      go_wp2_with (first | ((with_reducible show Calls _ 62 #[.int .u64 (a : Int)] _ _); refine (h1 _).mono ?_; rintro e w1 ⟨rfl, rfl⟩) | ((with_reducible show Calls _ 62 #[.int .u64 (b : Int)] _ _); refine (h2 _).mono ?_; rintro e w1 ⟨rfl, rfl⟩))
      go_ret
      exact Just.mk_bool HE.out.symm
    · have HW := hid (hw hx hy)
      clear hn hw
      by_cases hab : a = b <;> by_cases hx1 : x = 1 <;> by_cases hy1 : y = 1
      all_goals first
        | (exfalso; omega)
        | (go_enter Try.func57, Try.ntmps57
           go_wp2_with (first | ((with_reducible show Calls _ 62 #[.int .u64 (a : Int)] _ _); refine (h1 _).mono ?_; rintro e w1 ⟨rfl, rfl⟩) | ((with_reducible show Calls _ 62 #[.int .u64 (b : Int)] _ _); refine (h2 _).mono ?_; rintro e w1 ⟨rfl, rfl⟩))
           all_goals go_ret
           all_goals refine Just.mk_bool ?_
           all_goals rw [HW.out]
           all_goals (simp [hab, hx1, hy1] <;> omega))
end Go.Proofs.Ytaahaehgdamkdaa
