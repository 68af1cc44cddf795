/- How values, and three of them in a row, come in. Conditions: none. -/
import Derived.Test.YtaahaehgdamkdaaLaw
import Derived.Test.YtaahaehgdamkdaaBase
import Derived.Lib.SmallJoins
namespace Go.Proofs.Ytaahaehgdamkdaa
open Go Go.RowKit Go.ChangeShapes Go.WideShapes Go.ChangeAt

set_option maxRecDepth 100000 in
theorem cells_value {H : Type} {enc : TypeId × Value → H} {W : World} {m : Nat} {c0 c1 c2 c3 : Value} {y : DataW H × List MemPlace}
    (h : DataW.trod enc Try.prog W 0 (fun _ => true) true m 24 [c0, c1, c2, c3] = some y) :
    ∃ (k : Nat) (n : Int) (b : Nat) (t : ByteArray), c0 = .int .u8 (k : Int) ∧ c1 = .int .i64 n ∧ c2 = .int .u64 (b : Int) ∧ c3 = .string t ∧ k ≤ 255 ∧ -9223372036854775808 ≤ n ∧ n ≤ 9223372036854775807 ∧ b ≤ 18446744073709551615 ∧ t.size ≤ 9223372036854775807 := by
  obtain ⟨y0, y1, y2, y3, q, _, _, h0, h1, h2, h3⟩ := Joins.trod_struct4 Try.underlying24 h
  obtain ⟨a, e0, _, wa⟩ := DataW.trod_int Try.underlying5 h0
  obtain ⟨n, e1, _, wn⟩ := DataW.trod_int Try.underlying3 h1
  obtain ⟨b, e2, _, wb⟩ := DataW.trod_int Try.underlying22 h2
  obtain ⟨t, e3, _, ht⟩ := DataW.trod_string Try.underlying9 h3
  have ba := bounds_u8 wa
  have bn := bounds_i64 wn
  have bb := bounds_u64 wb
  have k0 : Try.prog.cellsOf 5 = 1 := by kernel_rfl
  have k1 : Try.prog.cellsOf 3 = 1 := by kernel_rfl
  have k2 : Try.prog.cellsOf 22 = 1 := by kernel_rfl
  have k3 : Try.prog.cellsOf 9 = 1 := by kernel_rfl
  simp only [k0, List.drop_zero, List.take_succ_cons, List.take_zero, List.cons.injEq, and_true] at e0
  simp only [k1, List.drop_succ_cons, List.drop_zero, List.take_succ_cons, List.take_zero, List.cons.injEq, and_true] at e1
  simp only [k2, List.drop_succ_cons, List.drop_zero, List.take_succ_cons, List.take_zero, List.cons.injEq, and_true] at e2
  simp only [k3, List.drop_succ_cons, List.drop_zero, List.take_succ_cons, List.take_zero, List.cons.injEq, and_true] at e3
  unfold maxLen at ht
  refine ⟨a.toNat, n, b.toNat, t, ?_, e1, ?_, e3, by omega, bn.1, bn.2, by omega, by omega⟩
  · rw [e0, Int.toNat_of_nonneg ba.1]
  · rw [e2, Int.toNat_of_nonneg bb.1]

set_option maxRecDepth 100000 in
theorem open_three {H : Type} {enc : TypeId × Value → H} {W : World} {base : Nat} {v : Value} {d : DataW H} {p : List MemPlace}
    (hv : Value.okWide Try.prog W .any base 44 v) (h : DataW.Trod enc Try.prog W 0 (fun _ => true) true 44 v d p) :
    ∃ (k : Nat) (n : Int) (b : Nat) (t : ByteArray) (l : Nat) (m : Int) (c : Nat) (u : ByteArray) (j : Nat) (i : Int) (e : Nat) (s : ByteArray),
      v = .agg #[.int .u8 (k : Int), .int .i64 n, .int .u64 (b : Int), .string t, .int .u8 (l : Int), .int .i64 m, .int .u64 (c : Int), .string u, .int .u8 (j : Int), .int .i64 i, .int .u64 (e : Int), .string s] ∧
      (k ≤ 255 ∧ -9223372036854775808 ≤ n ∧ n ≤ 9223372036854775807 ∧ b ≤ 18446744073709551615 ∧ t.size ≤ 9223372036854775807) ∧
      (l ≤ 255 ∧ -9223372036854775808 ≤ m ∧ m ≤ 9223372036854775807 ∧ c ≤ 18446744073709551615 ∧ u.size ≤ 9223372036854775807) ∧
      (j ≤ 255 ∧ -9223372036854775808 ≤ i ∧ i ≤ 9223372036854775807 ∧ e ≤ 18446744073709551615 ∧ s.size ≤ 9223372036854775807) := by
  have ht := Try.underlying44
  obtain ⟨cs, rfl, hsz, _⟩ : ∃ cs, v = .agg cs ∧ cs.size = Try.prog.cellsOf 44 ∧ Row.okWide Try.prog W .any base 44 cs := by
    simpa [Value.okWide, ht] using hv
  rw [show Try.prog.cellsOf 44 = 12 by kernel_rfl] at hsz
  obtain ⟨L⟩ := cs
  have twelve : ∃ c0 c1 c2 c3 c4 c5 c6 c7 c8 c9 c10 c11, L = [c0, c1, c2, c3, c4, c5, c6, c7, c8, c9, c10, c11] := by
    match L, hsz with
    | [c0, c1, c2, c3, c4, c5, c6, c7, c8, c9, c10, c11], _ => exact ⟨c0, c1, c2, c3, c4, c5, c6, c7, c8, c9, c10, c11, rfl⟩
  obtain ⟨c0, c1, c2, c3, c4, c5, c6, c7, c8, c9, c10, c11, rfl⟩ := twelve
  obtain ⟨fuel, hf⟩ := h
  obtain ⟨xs, m, _, hx, hlen, hl, hel⟩ := DataW.trod_array ht hf
  have y0 := hel 0 (by omega)
  have y1 := hel 1 (by omega)
  have y2 := hel 2 (by omega)
  rw [show Try.prog.cellsOf 24 = 4 by kernel_rfl] at y0 y1 y2
  have e0 : ∃ y, DataW.trod enc Try.prog W 0 (fun _ => true) true m 24 [c0, c1, c2, c3] = some y := ⟨xs[0]'(by omega), by simpa [Value.cells, List.getElem?_eq_getElem (show 0 < xs.length by omega)] using y0⟩
  have e1 : ∃ y, DataW.trod enc Try.prog W 0 (fun _ => true) true m 24 [c4, c5, c6, c7] = some y := ⟨xs[1]'(by omega), by simpa [Value.cells, List.getElem?_eq_getElem (show 1 < xs.length by omega)] using y1⟩
  have e2 : ∃ y, DataW.trod enc Try.prog W 0 (fun _ => true) true m 24 [c8, c9, c10, c11] = some y := ⟨xs[2]'(by omega), by simpa [Value.cells, List.getElem?_eq_getElem (show 2 < xs.length by omega)] using y2⟩
  obtain ⟨z0, hz0⟩ := e0
  obtain ⟨z1, hz1⟩ := e1
  obtain ⟨z2, hz2⟩ := e2
  obtain ⟨k, n, b, t, rfl, rfl, rfl, rfl, ha⟩ := cells_value hz0
  obtain ⟨l, m', c, u, rfl, rfl, rfl, rfl, hb⟩ := cells_value hz1
  obtain ⟨j, i, e, s, rfl, rfl, rfl, rfl, hc⟩ := cells_value hz2
  exact ⟨k, n, b, t, l, m', c, u, j, i, e, s, rfl, ha, hb, hc⟩
end Go.Proofs.Ytaahaehgdamkdaa
