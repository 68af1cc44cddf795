/- Several texts in one: RR5, Real. Conditions: those of each. -/
import Derived.Deep.CutRange
import Derived.WalkLawsBesides
import Derived.Laws.FloatArith
import Derived.Laws.Externs
import Derived.Test.YtbgapkhcaideiaaBase
import Derived.Test.YtbgapkhcaideiaaProg
/- The document's Whole, against and Versus, by their contracts. Conditions: none. -/
namespace Go.Proofs.Ytbgapkhcaideiaa
open Go Go.RowKit

/-- a number and a yes or no are told, and the world is as it was -/
def JustB (w : World) (t : Int × Bool) (e : Ending) (w' : World) : Prop := e = .returned (.tuple #[.int .i64 t.1, .bool t.2]) ∧ w' = w
theorem JustB.mk {w : World} {t : Int × Bool} {x n : Int} {b : Bool} (h : t = (n, b)) (hx : x = n) : JustB w t (.returned (.tuple #[.int .i64 x, .bool b])) w := by
  subst h; subst hx
  exact ⟨rfl, rfl⟩

end Go.Proofs.Ytbgapkhcaideiaa

/- The contracts of the landed program's real: Kind, Clean, Rank, Neg, Less, Equal, Add, OfInt, Whole, Versus tell what the specification's functions say; and of what it takes of the library (Trunc, Compare, Or). Conditions: numbers within their kinds. -/
namespace Go.Proofs.Ytbgapkhcaideiaa
open Go Go.RowKit

theorem u64_sign_off {x : Nat} (h1 : x ≤ 18446744073709551615) : bits .andNot .u64 (x : Int) 9223372036854775808 = (rungZ x : Int) := by
  rw [show (9223372036854775808 : Int) = ((9223372036854775808 : Nat) : Int) from rfl, u64_andNot_nat x 9223372036854775808 (by omega) (by decide)]
  have : x &&& (18446744073709551615 - 9223372036854775808) = x % 9223372036854775808 := Nat.and_two_pow_sub_one_eq_mod x 63
  rw [this]
  rfl
def SaysB (w : World) (t : Int × Bool) (e : Ending) (w' : World) : Prop := e = .returned (.tuple #[.int .i64 t.1, .bool t.2]) ∧ Ext w w'
theorem SaysB.mk {w w' : World} {t : Int × Bool} {x : Int} {b : Bool} (h : t = (x, b)) (hx : Ext w w') : SaysB w t (.returned (.tuple #[.int .i64 x, .bool b])) w' := by
  subst h
  exact ⟨rfl, hx⟩

set_option maxRecDepth 100000 in
set_option maxHeartbeats 400000 in
theorem kind_just (u : Nat) (w : World) (hu : u ≤ 18446744073709551615) : Calls Try.prog 69 #[.int .u64 (u : Int)] w (Just w (.int .u8 (kindZ u : Int))) := by
  have hb := u64_sign_off hu
  have hf := @kind_fin u
  have hn := @kind_nan u
  have hi := @kind_inf u
  have hz := @kind_zero u
  have ht : kindZ u = 2 ↔ rungZ u ≠ 0 ∧ rungZ u ≤ 4503599627370495 := by
    have := fr_lt u; have := ex_lt u
    rw [rung_parts]; unfold kindZ
    repeat' split
    all_goals omega
  have hk : 1 ≤ kindZ u ∧ kindZ u ≤ 5 := by unfold kindZ; (repeat' split) <;> omega
  have hr := rung_lt u
  generalize rungZ u = r at *
  generalize kindZ u = k at *
  have F1 := hid hf
  have F2 := hid hn
  have F3 := hid hi
  have F4 := hid hz
  have F5 := hid ht
  have F6 := hid hk
  obtain ⟨z, hzz⟩ : ∃ z : Int, z = (r : Int) := ⟨_, rfl⟩
  rw [← hzz] at hb
  have F7 := hid hzz
  clear hf hn hi hz ht hk hr hzz
  go_enter Try.func69, Try.ntmps69
  go_wp2
  all_goals go_ret
  all_goals exact Just.mk_int (by have := F1.out; have := F2.out; have := F3.out; have := F4.out; have := F5.out; have := F6.out; have := F7.out; simp only [beq_iff_eq, beq_eq_false_iff_ne] at *; omega)

theorem is_num (u : Nat) (w : World) (hu : u ≤ 18446744073709551615) : Calls Try.prog 68 #[.int .u64 (u : Int)] w (Just w (.bool (!decide (kindZ u = 5)))) := by
  have k := fun W => kind_just u W hu
  go_enter Try.func68, Try.ntmps68
  go_wp2_with ((with_reducible show Calls _ 69 _ _ _); refine (k _).mono ?_; rintro e w1 ⟨rfl, rfl⟩)
  go_ret
  refine Just.mk_bool ?_
  by_cases h : kindZ u = 5
  · rw [h]; rfl
  · rw [decide_eq_false h, bne_iff_ne.2 (by omega)]; rfl

theorem clean_just (u : Nat) (w : World) (hu : u ≤ 18446744073709551615) : Calls Try.prog 67 #[.int .u64 (u : Int)] w (Just w (.int .u64 (cleanZ u : Int))) := by
  have k := fun W => is_num u W hu
  by_cases h : kindZ u = 5
  · rw [decide_eq_true h] at k
    go_enter Try.func67, Try.ntmps67
    go_wp2_with ((with_reducible show Calls _ 68 _ _ _); refine (k _).mono ?_; rintro e w1 ⟨rfl, rfl⟩)
    go_ret
    exact Just.mk_int (by unfold cleanZ; rw [if_pos h]; rfl)
  · rw [decide_eq_false h] at k
    go_enter Try.func67, Try.ntmps67
    go_wp2_with ((with_reducible show Calls _ 68 _ _ _); refine (k _).mono ?_; rintro e w1 ⟨rfl, rfl⟩)
    go_ret
    exact Just.mk_int (by unfold cleanZ; rw [if_neg h])

/-! ### what the program takes of the library -/
/-! ### as the laws' walks take them -/
end Go.Proofs.Ytbgapkhcaideiaa

