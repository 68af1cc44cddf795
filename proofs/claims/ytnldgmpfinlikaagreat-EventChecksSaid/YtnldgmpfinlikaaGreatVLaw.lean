/- How values, and three of them in a row, come in. Conditions: none. -/
import Derived.Test.YtnldgmpfinlikaaGreatLaw
import Derived.Test.YtnldgmpfinlikaaGreatBase
import Derived.Lib.SmallJoins
namespace Go.Proofs.YtnldgmpfinlikaaGreat
open Go Go.RowKit Go.ChangeShapes Go.WideShapes Go.ChangeAt

set_option maxRecDepth 100000 in
theorem cells_value {H : Type} {enc : TypeId × Value → H} {W : World} {m : Nat} {c0 c1 c2 c3 : Value} {y : DataW H × List MemPlace}
    (h : DataW.trod enc Tryz.prog W 0 (fun _ => true) true m 47 [c0, c1, c2, c3] = some y) :
    ∃ (k : Nat) (n : Int) (b : Nat) (t : ByteArray), c0 = .int .u8 (k : Int) ∧ c1 = .int .i64 n ∧ c2 = .int .u64 (b : Int) ∧ c3 = .string t ∧ k ≤ 255 ∧ -9223372036854775808 ≤ n ∧ n ≤ 9223372036854775807 ∧ b ≤ 18446744073709551615 ∧ t.size ≤ 9223372036854775807 := by
  obtain ⟨y0, y1, y2, y3, q, _, _, h0, h1, h2, h3⟩ := Joins.trod_struct4 Tryz.underlying47 h
  obtain ⟨a, e0, _, wa⟩ := DataW.trod_int Tryz.underlying5 h0
  obtain ⟨n, e1, _, wn⟩ := DataW.trod_int Tryz.underlying3 h1
  obtain ⟨b, e2, _, wb⟩ := DataW.trod_int Tryz.underlying42 h2
  obtain ⟨t, e3, _, ht⟩ := DataW.trod_string Tryz.underlying9 h3
  have ba := bounds_u8 wa
  have bn := bounds_i64 wn
  have bb := bounds_u64 wb
  have k0 : Tryz.prog.cellsOf 5 = 1 := by kernel_rfl
  have k1 : Tryz.prog.cellsOf 3 = 1 := by kernel_rfl
  have k2 : Tryz.prog.cellsOf 42 = 1 := by kernel_rfl
  have k3 : Tryz.prog.cellsOf 9 = 1 := by kernel_rfl
  simp only [k0, List.drop_zero, List.take_succ_cons, List.take_zero, List.cons.injEq, and_true] at e0
  simp only [k1, List.drop_succ_cons, List.drop_zero, List.take_succ_cons, List.take_zero, List.cons.injEq, and_true] at e1
  simp only [k2, List.drop_succ_cons, List.drop_zero, List.take_succ_cons, List.take_zero, List.cons.injEq, and_true] at e2
  simp only [k3, List.drop_succ_cons, List.drop_zero, List.take_succ_cons, List.take_zero, List.cons.injEq, and_true] at e3
  unfold maxLen at ht
  refine ⟨a.toNat, n, b.toNat, t, ?_, e1, ?_, e3, by omega, bn.1, bn.2, by omega, by omega⟩
  · rw [e0, Int.toNat_of_nonneg ba.1]
  · rw [e2, Int.toNat_of_nonneg bb.1]

end Go.Proofs.YtnldgmpfinlikaaGreat
