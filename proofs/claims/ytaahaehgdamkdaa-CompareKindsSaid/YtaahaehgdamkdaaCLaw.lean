/- How two bytes in a row come in. Conditions: none. -/
import Derived.Test.YtaahaehgdamkdaaLaw
import Derived.Test.YtaahaehgdamkdaaVSpec
import Derived.Lib.SmallJoins
namespace Go.Proofs.Ytaahaehgdamkdaa
open Go Go.RowKit Go.ChangeShapes Go.WideShapes Go.ChangeAt

set_option maxRecDepth 100000 in
theorem cells_byte {H : Type} {enc : TypeId × Value → H} {W : World} {m : Nat} {c0 : Value} {y : DataW H × List MemPlace}
    (h : DataW.trod enc Try.prog W 0 (fun _ => true) true m 5 [c0] = some y) : ∃ k : Nat, c0 = .int .u8 (k : Int) ∧ k ≤ 255 := by
  obtain ⟨a, e0, _, wa⟩ := DataW.trod_int Try.underlying5 h
  have ba := bounds_u8 wa
  simp only [List.cons.injEq, and_true] at e0
  exact ⟨a.toNat, by rw [e0, Int.toNat_of_nonneg ba.1], by omega⟩

set_option maxRecDepth 100000 in
theorem open_two8 {H : Type} {enc : TypeId × Value → H} {W : World} {base : Nat} {v : Value} {d : DataW H} {p : List MemPlace}
    (hv : Value.okWide Try.prog W .any base 35 v) (h : DataW.Trod enc Try.prog W 0 (fun _ => true) true 35 v d p) :
    ∃ (k l : Nat), v = .agg #[.int .u8 (k : Int), .int .u8 (l : Int)] ∧ k ≤ 255 ∧ l ≤ 255 := by
  have ht := Try.underlying35
  obtain ⟨cs, rfl, hsz, _⟩ : ∃ cs, v = .agg cs ∧ cs.size = Try.prog.cellsOf 35 ∧ Row.okWide Try.prog W .any base 35 cs := by
    simpa [Value.okWide, ht] using hv
  rw [show Try.prog.cellsOf 35 = 2 by kernel_rfl] at hsz
  obtain ⟨L⟩ := cs
  have two : ∃ c0 c1, L = [c0, c1] := by
    match L, hsz with
    | [c0, c1], _ => exact ⟨c0, c1, rfl⟩
  obtain ⟨c0, c1, rfl⟩ := two
  obtain ⟨fuel, hf⟩ := h
  obtain ⟨xs, m, _, hx, hlen, hl, hel⟩ := DataW.trod_array ht hf
  have y0 := hel 0 (by omega)
  have y1 := hel 1 (by omega)
  rw [show Try.prog.cellsOf 5 = 1 by kernel_rfl] at y0 y1
  have e0 : ∃ y, DataW.trod enc Try.prog W 0 (fun _ => true) true m 5 [c0] = some y := ⟨xs[0]'(by omega), by simpa [Value.cells, List.getElem?_eq_getElem (show 0 < xs.length by omega)] using y0⟩
  have e1 : ∃ y, DataW.trod enc Try.prog W 0 (fun _ => true) true m 5 [c1] = some y := ⟨xs[1]'(by omega), by simpa [Value.cells, List.getElem?_eq_getElem (show 1 < xs.length by omega)] using y1⟩
  obtain ⟨z0, hz0⟩ := e0
  obtain ⟨z1, hz1⟩ := e1
  obtain ⟨k, rfl, hk⟩ := cells_byte hz0
  obtain ⟨l, rfl, hl'⟩ := cells_byte hz1
  exact ⟨k, l, rfl, hk, hl'⟩
end Go.Proofs.Ytaahaehgdamkdaa
