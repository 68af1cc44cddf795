/- How values, and three of them in a row, come in. Conditions: none. -/
import Derived.Test.YtbgapkhcaideiaaLaw
import Derived.Test.YtbgapkhcaideiaaBase
import Derived.Lib.SmallJoins
namespace Go.Proofs.Ytbgapkhcaideiaa
open Go Go.RowKit Go.ChangeShapes Go.WideShapes Go.ChangeAt

set_option maxRecDepth 100000 in
theorem cells_value {H : Type} {enc : TypeId × Value → H} {W : World} {m : Nat} {c0 c1 c2 c3 : Value} {y : DataW H × List MemPlace}
    (h : DataW.trod enc Try.prog W 0 (fun _ => true) true m 30 [c0, c1, c2, c3] = some y) :
    ∃ (k : Nat) (n : Int) (b : Nat) (t : ByteArray), c0 = .int .u8 (k : Int) ∧ c1 = .int .i64 n ∧ c2 = .int .u64 (b : Int) ∧ c3 = .string t ∧ k ≤ 255 ∧ -9223372036854775808 ≤ n ∧ n ≤ 9223372036854775807 ∧ b ≤ 18446744073709551615 ∧ t.size ≤ 9223372036854775807 := by
  obtain ⟨y0, y1, y2, y3, q, _, _, h0, h1, h2, h3⟩ := Joins.trod_struct4 Try.underlying30 h
  obtain ⟨a, e0, _, wa⟩ := DataW.trod_int Try.underlying5 h0
  obtain ⟨n, e1, _, wn⟩ := DataW.trod_int Try.underlying3 h1
  obtain ⟨b, e2, _, wb⟩ := DataW.trod_int Try.underlying22 h2
  obtain ⟨t, e3, _, ht⟩ := DataW.trod_string Try.underlying9 h3
  have ba := bounds_u8 wa
  have bn := bounds_i64 wn
  have bb := bounds_u64 wb
  have k0 : Try.prog.cellsOf 5 = 1 := by kernel_rfl
  have k1 : Try.prog.cellsOf 3 = 1 := by kernel_rfl
  have k2 : Try.prog.cellsOf 22 = 1 := by kernel_rfl
  have k3 : Try.prog.cellsOf 9 = 1 := by kernel_rfl
  simp only [k0, List.drop_zero, List.take_succ_cons, List.take_zero, List.cons.injEq, and_true] at e0
  simp only [k1, List.drop_succ_cons, List.drop_zero, List.take_succ_cons, List.take_zero, List.cons.injEq, and_true] at e1
  simp only [k2, List.drop_succ_cons, List.drop_zero, List.take_succ_cons, List.take_zero, List.cons.injEq, and_true] at e2
  simp only [k3, List.drop_succ_cons, List.drop_zero, List.take_succ_cons, List.take_zero, List.cons.injEq, and_true] at e3
  unfold maxLen at ht
  refine ⟨a.toNat, n, b.toNat, t, ?_, e1, ?_, e3, by omega, bn.1, bn.2, by omega, by omega⟩
  · rw [e0, Int.toNat_of_nonneg ba.1]
  · rw [e2, Int.toNat_of_nonneg bb.1]

set_option maxRecDepth 100000 in
theorem open_value {H : Type} {enc : TypeId × Value → H} {W : World} {base : Nat} {v : Value} {d : DataW H} {p : List MemPlace}
    (hv : Value.okWide Try.prog W .any base 30 v) (h : DataW.Trod enc Try.prog W 0 (fun _ => true) true 30 v d p) :
    ∃ (k : Nat) (n : Int) (b : Nat) (t : ByteArray), v = .agg #[.int .u8 (k : Int), .int .i64 n, .int .u64 (b : Int), .string t] ∧ k ≤ 255 ∧ -9223372036854775808 ≤ n ∧ n ≤ 9223372036854775807 ∧ b ≤ 18446744073709551615 ∧ t.size ≤ 9223372036854775807 := by
  obtain ⟨cs, rfl, hsz⟩ := okWide_struct Try.underlying30 hv
  obtain ⟨c0, c1, c2, c3, rfl⟩ := Joins.array4 (hsz.trans (show Try.prog.cellsOf 30 = 4 by kernel_rfl))
  obtain ⟨fuel, hf⟩ := h
  obtain ⟨k, n, b, t, rfl, rfl, rfl, rfl, h1, h2, h3, h4, h5⟩ := cells_value (m := fuel) (by simpa [Value.cells] using hf)
  exact ⟨k, n, b, t, rfl, h1, h2, h3, h4, h5⟩

end Go.Proofs.Ytbgapkhcaideiaa
