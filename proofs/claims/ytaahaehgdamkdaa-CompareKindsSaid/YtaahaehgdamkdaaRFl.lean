/- Go's floats by the specification's functions: order, sums, externs. Conditions: the program calls math.Float64frombits and math.Float64bits. -/
import Derived.Test.YtaahaehgdamkdaaProg
import Derived.Test.YtaahaehgdamkdaaRRnd
import Derived.WalkLawsBesides
import Derived.Laws.FloatArith
import Derived.Laws.Externs
namespace Go.Proofs.Ytaahaehgdamkdaa
open Go Go.RowKit

theorem from_run (n : Nat) (w : World) : (callFunc 59 #[.int .u64 (n : Int)]).run Try.prog w = .ok (.value (.float .f64 n)) w := by
  rw [run_callFunc_extern Try.func59 (by kernel_rfl) (by kernel_rfl) (by kernel_rfl) (e := Extern.MathFloatBits.float64frombits) (by kernel_rfl)]
  rfl
theorem bits_run (n : Nat) (w : World) : (callFunc 60 #[.float .f64 n]).run Try.prog w = .ok (.value (.int .u64 (n : Int))) w := by
  rw [run_callFunc_extern Try.func60 (by kernel_rfl) (by kernel_rfl) (by kernel_rfl) (e := Extern.MathFloatBits.float64bits) (by kernel_rfl)]
  rfl

theorem order_f64 {a b : Nat} (ha : a ≤ 18446744073709551615) (hb : b ≤ 18446744073709551615) :
    FloatKind.f64.format.order a b = if kindZ a = 5 ∨ kindZ b = 5 then none else some (compare (srkZ a) (srkZ b)) :=
  order_model (by omega) (by omega)

theorem ord_lt {a b : Nat} (ha : a ≤ 18446744073709551615) (hb : b ≤ 18446744073709551615) : (FloatKind.f64.format.order a b == some Ordering.lt) = lessZ a b := by
  rw [order_f64 ha hb]; unfold lessZ
  by_cases h : kindZ a = 5 ∨ kindZ b = 5
  · rw [if_pos h, decide_eq_false (by omega)]; rfl
  · rw [if_neg h, Bool.eq_iff_iff, decide_eq_true_iff, beq_iff_eq, Option.some.injEq, Int.compare_eq_lt]; omega
theorem ord_eq {a b : Nat} (ha : a ≤ 18446744073709551615) (hb : b ≤ 18446744073709551615) : (FloatKind.f64.format.order a b == some Ordering.eq) = equalZ a b := by
  rw [order_f64 ha hb]; unfold equalZ
  by_cases h : kindZ a = 5 ∨ kindZ b = 5
  · rw [if_pos h, decide_eq_false (by omega)]; rfl
  · rw [if_neg h, Bool.eq_iff_iff, decide_eq_true_iff, beq_iff_eq, Option.some.injEq, Int.compare_eq_eq]; omega
theorem ord_gt {a b : Nat} (ha : a ≤ 18446744073709551615) (hb : b ≤ 18446744073709551615) : (FloatKind.f64.format.order a b == some Ordering.gt) = lessZ b a := by
  rw [order_f64 ha hb]; unfold lessZ
  by_cases h : kindZ a = 5 ∨ kindZ b = 5
  · rw [if_pos h, decide_eq_false (by omega)]; rfl
  · rw [if_neg h, Bool.eq_iff_iff, decide_eq_true_iff, beq_iff_eq, Option.some.injEq, Int.compare_eq_gt]; omega
theorem ord_ne {a b : Nat} (ha : a ≤ 18446744073709551615) (hb : b ≤ 18446744073709551615) : (FloatKind.f64.format.order a b != some Ordering.eq) = !equalZ a b := by
  rw [← ord_eq ha hb]; rfl

theorem ofint_f64 (n : Int) : floatOfInt .f64 n = intZ n := int_model n

theorem sum_run (a b : Nat) (w : World) (ha : a ≤ 18446744073709551615) (hb : b ≤ 18446744073709551615) (h : ¬ nanSum a b) (t : TypeId) :
    (binOp .add t (.float .f64 a) (.float .f64 b)).run Try.prog w = .ok (.float .f64 (addZ a b)) w := by
  refine run_float_arith w .add t .f64 a b _ ?_
  show Ieee.double.add a b = _
  rw [add_model (by omega) (by omega), if_neg h]

/-- where a sum is no number, it is one that is none, whichever -/
theorem sum_nan (a b : Nat) (w : World) (ha : a ≤ 18446744073709551615) (hb : b ≤ 18446744073709551615) (h : nanSum a b) :
    ∃ N, N ≤ 18446744073709551615 ∧ kindZ N = 5 ∧ ∀ t, (binOp .add t (.float .f64 a) (.float .f64 b)).run Try.prog w = .ok (.float .f64 N) w.drew := by
  have hm : FloatKind.f64.format.add a b = none := by
    show Ieee.double.add a b = none
    rw [add_model (by omega) (by omega), if_pos h]
  let T := w.tape w.drawn (.nanBits .f64 a b)
  refine ⟨(T % 2) * 2 ^ 63 + 0x7ff0000000000000 + 1 + (T / 2) % (2 ^ 52 - 1), ?_, ?_, ?_⟩
  · have h1 : T / 2 % (2 ^ 52 - 1) < 2 ^ 52 - 1 := Nat.mod_lt _ (by decide)
    have h2 : T % 2 < 2 := Nat.mod_lt _ (by decide)
    generalize T / 2 % (2 ^ 52 - 1) = q at *
    generalize T % 2 = p at *
    omega
  · have h1 : T / 2 % (2 ^ 52 - 1) < 2 ^ 52 - 1 := Nat.mod_lt _ (by decide)
    have h2 : T % 2 < 2 := Nat.mod_lt _ (by decide)
    rw [kind_nan]; unfold rungZ
    generalize T / 2 % (2 ^ 52 - 1) = q at *
    generalize T % 2 = p at *
    omega
  · intro t
    simp [binOp, Op.floatArith, hm, Question.forced, Question.cut, T]

end Go.Proofs.Ytaahaehgdamkdaa
