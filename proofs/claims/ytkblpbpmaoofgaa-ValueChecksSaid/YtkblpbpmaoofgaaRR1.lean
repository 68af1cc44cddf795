/- The document's doubles, by their contracts: what they are, ranks, order, signs. Conditions: none. -/
import Derived.Test.YtkblpbpmaoofgaaSay
import Derived.Test.YtkblpbpmaoofgaaRRnd
import Derived.Test.YtkblpbpmaoofgaaBits
namespace Go.Proofs.Ytkblpbpmaoofgaa
open Go Go.RowKit

set_option maxHeartbeats 400000 in
theorem rexp_any (u : Nat) (w : World) (hu : u ≤ 18446744073709551615) : Calls Try.prog 69 #[.int .u64 (u : Int)] w (Just w (.int .i64 (exZ u : Int))) := by
  go_enter Try.func69, Try.ntmps69
  go_wp2_with fail
  go_ret
  exact Just.mk_int (by unfold exZ; omega)

set_option maxHeartbeats 400000 in
theorem rfrac_any (u : Nat) (w : World) (hu : u ≤ 18446744073709551615) : Calls Try.prog 70 #[.int .u64 (u : Int)] w (Just w (.int .u64 (frZ u : Int))) := by
  go_enter Try.func70, Try.ntmps70
  go_wp2_with fail
  go_ret
  exact Just.mk_int (by unfold frZ; omega)

set_option maxHeartbeats 400000 in
theorem rsign_any (u : Nat) (w : World) : Calls Try.prog 62 #[.int .u64 (u : Int)] w (Just w (.bool (sgZ u))) := by
  go_enter Try.func62, Try.ntmps62
  go_wp2_with fail
  go_ret
  refine Just.mk_bool ?_
  unfold sgZ
  exact decide_eq_decide.2 (by omega)

set_option maxHeartbeats 400000 in
theorem rkind_any (u : Nat) (w : World) (hu : u ≤ 18446744073709551615) : Calls Try.prog 56 #[.int .u64 (u : Int)] w (Just w (.int .u8 (kindZ u : Int))) := by
  have h1 := fun W => rexp_any u W hu
  have h2 := fun W => rfrac_any u W hu
  have hx := ex_lt u
  have hf := fr_lt u
  have hk : kindZ u = if exZ u = 2047 ∧ frZ u ≠ 0 then 5 else if exZ u = 2047 then 4 else if exZ u ≠ 0 then 3 else if frZ u ≠ 0 then 2 else 1 := rfl
  generalize exZ u = x at *
  generalize frZ u = f at *
  have HK := hid hk
  clear hk
  by_cases hx1 : x = 2047 <;> by_cases hf1 : f = 0 <;> by_cases hx0 : x = 0
  all_goals first
    | (exfalso; omega)
    | (go_enter Try.func56, Try.ntmps56
       go_wp2_with (first | ((with_reducible show Calls _ 69 _ _ _); refine (h1 _).mono ?_; rintro e w1 ⟨rfl, rfl⟩) | ((with_reducible show Calls _ 70 _ _ _); refine (h2 _).mono ?_; rintro e w1 ⟨rfl, rfl⟩))
       go_ret
       exact Just.mk_int (by rw [HK.out]; (repeat' split) <;> omega))

theorem kind_le (u : Nat) : kindZ u ≤ 5 := by unfold kindZ; (repeat' split) <;> omega

set_option maxHeartbeats 400000 in
theorem rclean_any (u : Nat) (w : World) (hu : u ≤ 18446744073709551615) : Calls Try.prog 36 #[.int .u64 (u : Int)] w (Just w (.int .u64 (cleanZ u : Int))) := by
  have h1 := fun W => rkind_any u W hu
  have hk5 := kind_le u
  have hc : cleanZ u = if kindZ u = 5 then 9221120237041090560 else u := rfl
  generalize kindZ u = k at *
  have HC := hid hc
  clear hc
  by_cases hk : k = 5
  all_goals
    go_enter Try.func36, Try.ntmps36
    go_wp2_with ((with_reducible show Calls _ 56 _ _ _); refine (h1 _).mono ?_; rintro e w1 ⟨rfl, rfl⟩)
    go_ret
    exact Just.mk_int (by rw [HC.out]; split <;> omega)

set_option maxHeartbeats 400000 in
theorem rrank_any (u : Nat) (w : World) (hu : u ≤ 18446744073709551615) : Calls Try.prog 42 #[.int .u64 (u : Int)] w (Just w (.int .u64 (rankZ u : Int))) := by
  have h1 := fun W => rclean_any u W hu
  have hcl := clean_lt (u := u) (by omega)
  have hr : rankZ u = if 9223372036854775808 ≤ cleanZ u then 18446744073709551615 - cleanZ u else cleanZ u + 9223372036854775808 := rfl
  generalize cleanZ u = c at *
  have h2 := fun W => rsign_any c W
  have hs : sgZ c = decide (9223372036854775808 ≤ c) := rfl
  have HR := hid hr
  clear hr
  by_cases hc : 9223372036854775808 ≤ c
  · rw [hs, decide_eq_true hc] at h2
    go_enter Try.func42, Try.ntmps42
    go_wp2_with (first | ((with_reducible show Calls _ 36 _ _ _); refine (h1 _).mono ?_; rintro e w1 ⟨rfl, rfl⟩) | ((with_reducible show Calls _ 62 _ _ _); refine (h2 _).mono ?_; rintro e w1 ⟨rfl, rfl⟩))
    go_ret
    exact Just.mk_int (by rw [HR.out, if_pos hc, u64_not (by omega) (by omega)]; omega)
  · rw [hs, decide_eq_false hc] at h2
    go_enter Try.func42, Try.ntmps42
    go_wp2_with (first | ((with_reducible show Calls _ 36 _ _ _); refine (h1 _).mono ?_; rintro e w1 ⟨rfl, rfl⟩) | ((with_reducible show Calls _ 62 _ _ _); refine (h2 _).mono ?_; rintro e w1 ⟨rfl, rfl⟩))
    go_ret
    exact Just.mk_int (by rw [HR.out, if_neg hc]; omega)

end Go.Proofs.Ytkblpbpmaoofgaa
