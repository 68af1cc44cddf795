/- Two rows of types that came in. Conditions: none. -/
import Derived.Test.YtggafdimbddflaaSOpen
import Derived.Lib.SmallJoins
namespace Go.Proofs.Ytggafdimbddflaa
open Go Go.RowKit Go.ChangeShapes Go.WideShapes Go.ChangeAt

set_option maxRecDepth 100000 in
theorem open_two_types {H : Type} {enc : TypeId × Value → H} {W : World} {base : Nat} {v : Value} {d : DataW H} {p : List MemPlace}
    (hv : Value.okWide Try.prog W .any base 23 v) (h : DataW.Trod enc Try.prog W 0 (fun _ => true) true 23 v d p) :
    ∃ (L0 L1 : List TZ) (A0 A1 : Option Addr) (k0 k1 : Nat), v = .agg #[.slice A0 L0.length k0, .slice A1 L1.length k1] ∧ TypesAt W (.slice A0 L0.length k0) L0 ∧ TypesAt W (.slice A1 L1.length k1) L1 ∧ TypesOk L0 ∧ TypesOk L1 := by
  have ht := Try.underlying23
  obtain ⟨cs, rfl, hsz, _⟩ : ∃ cs, v = .agg cs ∧ cs.size = Try.prog.cellsOf 23 ∧ Row.okWide Try.prog W .any base 23 cs := by
    simpa [Value.okWide, ht] using hv
  rw [show Try.prog.cellsOf 23 = 2 by kernel_rfl] at hsz
  obtain ⟨L⟩ := cs
  have two : ∃ c0 c1, L = [c0, c1] := by
    match L, hsz with
    | [c0, c1], _ => exact ⟨c0, c1, rfl⟩
  obtain ⟨c0, c1, rfl⟩ := two
  obtain ⟨fuel, hf⟩ := h
  obtain ⟨xs, m, _, hx, hlen, hl, hel⟩ := DataW.trod_array ht hf
  have y0 := hel 0 (by omega)
  have y1 := hel 1 (by omega)
  rw [show Try.prog.cellsOf 22 = 1 by kernel_rfl] at y0 y1
  have e0 : ∃ y, DataW.trod enc Try.prog W 0 (fun _ => true) true m 22 [c0] = some y := ⟨xs[0]'(by omega), by simpa [Value.cells, List.getElem?_eq_getElem (show 0 < xs.length by omega)] using y0⟩
  have e1 : ∃ y, DataW.trod enc Try.prog W 0 (fun _ => true) true m 22 [c1] = some y := ⟨xs[1]'(by omega), by simpa [Value.cells, List.getElem?_eq_getElem (show 1 < xs.length by omega)] using y1⟩
  obtain ⟨z0, hz0⟩ := e0
  obtain ⟨z1, hz1⟩ := e1
  obtain ⟨L0, hL0, hk0⟩ := open_types hz0
  obtain ⟨L1, hL1, hk1⟩ := open_types hz1
  have h0 := hL0
  have h1 := hL1
  obtain ⟨A0, k0, rfl, _, _, _⟩ := h0
  obtain ⟨A1, k1, rfl, _, _, _⟩ := h1
  exact ⟨L0, L1, A0, A1, k0, k1, rfl, hL0, hL1, hk0, hk1⟩
end Go.Proofs.Ytggafdimbddflaa
