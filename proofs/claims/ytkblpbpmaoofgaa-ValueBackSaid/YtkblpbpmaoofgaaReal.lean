/- The contracts of the landed program's real: Kind, Clean, Rank, Neg, Less, Equal, Add, OfInt, Whole, Versus tell what the specification's functions say; and of what it takes of the library (Trunc, Compare, Or). Conditions: numbers within their kinds. -/
import Derived.Test.YtkblpbpmaoofgaaSay
import Derived.Test.YtkblpbpmaoofgaaRRnd
import Derived.Test.YtkblpbpmaoofgaaBits
import Derived.Test.YtkblpbpmaoofgaaRWh
import Derived.Test.YtkblpbpmaoofgaaRR5
import Derived.Test.YtkblpbpmaoofgaaProg
import Derived.Test.YtkblpbpmaoofgaaRLaw
import Derived.Deep.CutRange
import Derived.WalkLawsBesides
import Derived.Laws.FloatArith
import Derived.Laws.Externs
namespace Go.Proofs.Ytkblpbpmaoofgaa
open Go Go.RowKit

theorem and_top (n x : Nat) : x &&& 2 ^ n = if x / 2 ^ n % 2 = 1 then 2 ^ n else 0 := by
  apply Nat.eq_of_testBit_eq
  intro i
  rw [Nat.testBit_and, Nat.testBit_two_pow]
  by_cases h1 : n = i
  · subst h1
    rw [Nat.testBit_eq_decide_div_mod_eq]
    by_cases h2 : x / 2 ^ n % 2 = 1
    · rw [if_pos h2, Nat.testBit_two_pow]; simp [h2]
    · rw [if_neg h2]; simp [h2]
  · split <;> simp [h1]

theorem u64_sign_off {x : Nat} (h1 : x ≤ 18446744073709551615) : bits .andNot .u64 (x : Int) 9223372036854775808 = (rungZ x : Int) := by
  rw [show (9223372036854775808 : Int) = ((9223372036854775808 : Nat) : Int) from rfl, u64_andNot_nat x 9223372036854775808 (by omega) (by decide)]
  have : x &&& (18446744073709551615 - 9223372036854775808) = x % 9223372036854775808 := Nat.and_two_pow_sub_one_eq_mod x 63
  rw [this]
  rfl
theorem u64_sign_on {x : Nat} (h1 : x ≤ 18446744073709551615) : (bits .and .u64 (x : Int) 9223372036854775808 != 0) = sgZ x := by
  rw [show (9223372036854775808 : Int) = ((9223372036854775808 : Nat) : Int) from rfl, u64_and_nat x 9223372036854775808 (by omega) (by decide)]
  have h : x &&& 9223372036854775808 = if x / 9223372036854775808 % 2 = 1 then 9223372036854775808 else 0 := and_top 63 x
  rw [h]
  unfold sgZ
  by_cases h2 : 9223372036854775808 ≤ x
  · rw [decide_eq_true h2, if_pos (by omega)]; rfl
  · rw [decide_eq_false h2, if_neg (by omega)]; rfl
def SaysB (w : World) (t : Int × Bool) (e : Ending) (w' : World) : Prop := e = .returned (.tuple #[.int .i64 t.1, .bool t.2]) ∧ Ext w w'
theorem SaysB.mk {w w' : World} {t : Int × Bool} {x : Int} {b : Bool} (h : t = (x, b)) (hx : Ext w w') : SaysB w t (.returned (.tuple #[.int .i64 x, .bool b])) w' := by
  subst h
  exact ⟨rfl, hx⟩

set_option maxRecDepth 100000 in
set_option maxHeartbeats 400000 in
theorem kind_just (u : Nat) (w : World) (hu : u ≤ 18446744073709551615) : Calls Try.prog 71 #[.int .u64 (u : Int)] w (Just w (.int .u8 (kindZ u : Int))) := by
  have hb := u64_sign_off hu
  have hf := @kind_fin u
  have hn := @kind_nan u
  have hi := @kind_inf u
  have hz := @kind_zero u
  have ht : kindZ u = 2 ↔ rungZ u ≠ 0 ∧ rungZ u ≤ 4503599627370495 := by
    have := fr_lt u; have := ex_lt u
    rw [rung_parts]; unfold kindZ
    repeat' split
    all_goals omega
  have hk : 1 ≤ kindZ u ∧ kindZ u ≤ 5 := by unfold kindZ; (repeat' split) <;> omega
  have hr := rung_lt u
  generalize rungZ u = r at *
  generalize kindZ u = k at *
  have F1 := hid hf
  have F2 := hid hn
  have F3 := hid hi
  have F4 := hid hz
  have F5 := hid ht
  have F6 := hid hk
  obtain ⟨z, hzz⟩ : ∃ z : Int, z = (r : Int) := ⟨_, rfl⟩
  rw [← hzz] at hb
  have F7 := hid hzz
  clear hf hn hi hz ht hk hr hzz
  go_enter Try.func71, Try.ntmps71
  go_wp2
  all_goals go_ret
  all_goals exact Just.mk_int (by have := F1.out; have := F2.out; have := F3.out; have := F4.out; have := F5.out; have := F6.out; have := F7.out; simp only [beq_iff_eq, beq_eq_false_iff_ne] at *; omega)

theorem is_num (u : Nat) (w : World) (hu : u ≤ 18446744073709551615) : Calls Try.prog 60 #[.int .u64 (u : Int)] w (Just w (.bool (!decide (kindZ u = 5)))) := by
  have k := fun W => kind_just u W hu
  go_enter Try.func60, Try.ntmps60
  go_wp2_with ((with_reducible show Calls _ 71 _ _ _); refine (k _).mono ?_; rintro e w1 ⟨rfl, rfl⟩)
  go_ret
  refine Just.mk_bool ?_
  by_cases h : kindZ u = 5
  · rw [h]; rfl
  · rw [decide_eq_false h, bne_iff_ne.2 (by omega)]; rfl

theorem clean_just (u : Nat) (w : World) (hu : u ≤ 18446744073709551615) : Calls Try.prog 48 #[.int .u64 (u : Int)] w (Just w (.int .u64 (cleanZ u : Int))) := by
  have k := fun W => is_num u W hu
  by_cases h : kindZ u = 5
  · rw [decide_eq_true h] at k
    go_enter Try.func48, Try.ntmps48
    go_wp2_with ((with_reducible show Calls _ 60 _ _ _); refine (k _).mono ?_; rintro e w1 ⟨rfl, rfl⟩)
    go_ret
    exact Just.mk_int (by unfold cleanZ; rw [if_pos h]; rfl)
  · rw [decide_eq_false h] at k
    go_enter Try.func48, Try.ntmps48
    go_wp2_with ((with_reducible show Calls _ 60 _ _ _); refine (k _).mono ?_; rintro e w1 ⟨rfl, rfl⟩)
    go_ret
    exact Just.mk_int (by unfold cleanZ; rw [if_neg h])

set_option maxRecDepth 100000 in
set_option maxHeartbeats 400000 in
theorem rank_just (u : Nat) (w : World) (hu : u ≤ 18446744073709551615) : Calls Try.prog 40 #[.int .u64 (u : Int)] w (Just w (.int .u64 (rankZ u : Int))) := by
  have kn := fun W => is_num u W hu
  have kc := fun W => clean_just u W hu
  have hb := u64_sign_on hu
  have hnot : bits .xor .u64 IntKind.u64.max (u : Int) = 18446744073709551615 - (u : Int) := u64_not (by omega) (by omega)
  by_cases h : kindZ u = 5
  · have hc : cleanZ u = 9221120237041090560 := if_pos h
    have hr := rank_nan h
    rw [decide_eq_true h] at kn
    rw [hc] at kc
    go_enter Try.func40, Try.ntmps40
    go_wp2_with (first | ((with_reducible show Calls _ 60 _ _ _); refine (kn _).mono ?_; rintro e w1 ⟨rfl, rfl⟩) | ((with_reducible show Calls _ 48 _ _ _); refine (kc _).mono ?_; rintro e w1 ⟨rfl, rfl⟩))
    go_ret
    exact Just.mk_int (by rw [hr]; decide)
  · have hc : cleanZ u = u := if_neg h
    have hr : rankZ u = if 9223372036854775808 ≤ u then 18446744073709551615 - u else u + 9223372036854775808 := by unfold rankZ; rw [hc]
    rw [decide_eq_false h] at kn
    rw [hc] at kc
    unfold sgZ at hb
    by_cases h2 : 9223372036854775808 ≤ u
    · rw [decide_eq_true h2] at hb
      rw [if_pos h2] at hr
      go_enter Try.func40, Try.ntmps40
      go_wp2_with (first | ((with_reducible show Calls _ 60 _ _ _); refine (kn _).mono ?_; rintro e w1 ⟨rfl, rfl⟩) | ((with_reducible show Calls _ 48 _ _ _); refine (kc _).mono ?_; rintro e w1 ⟨rfl, rfl⟩))
      all_goals go_ret
      all_goals exact Just.mk_int (by omega)
    · rw [decide_eq_false h2] at hb
      rw [if_neg h2] at hr
      go_enter Try.func40, Try.ntmps40
      go_wp2_with (first | ((with_reducible show Calls _ 60 _ _ _); refine (kn _).mono ?_; rintro e w1 ⟨rfl, rfl⟩) | ((with_reducible show Calls _ 48 _ _ _); refine (kc _).mono ?_; rintro e w1 ⟨rfl, rfl⟩))
      all_goals go_ret
      all_goals exact Just.mk_int (by omega)

/-! ### what the program takes of the library -/
theorem nani_just (a : Int) (w : World) : Calls Try.prog 58 #[.int .i64 a] w (Just w (.bool false)) := by
  go_enter Try.func58, Try.ntmps58
  go_wp2
  go_ret
  exact Just.mk_bool (by simp)

set_option maxHeartbeats 400000 in
theorem cmpi_just (x y : Int) (w : World) : Calls Try.prog 38 #[.int .i64 x, .int .i64 y] w (Just w (.int .i64 (cmpI x y))) := by
  have k := nani_just
  go_enter Try.func38, Try.ntmps38
  go_wp2_with ((with_reducible show Calls _ 58 _ _ _); refine (k _ _).mono ?_; rintro e w1 ⟨rfl, rfl⟩)
  all_goals go_ret
  all_goals refine Just.mk_int ?_
  all_goals unfold cmpI
  all_goals ((repeat' split) <;> first | rfl | (exfalso; omega))

/-! ### as the laws' walks take them -/
end Go.Proofs.Ytkblpbpmaoofgaa
