/- What every law's row wants behind its walk: the arguments read as they did. Conditions: none of its own. -/
import Derived.Test.YtbgapkhcaideiaaRows
import Derived.Test.YtbgapkhcaideiaaBase
import Derived.ProofKit
import Derived.OpenShut
import Derived.ShutString
import Derived.ChangeOld
import Derived.Below
import Derived.Lib.SmallJoins
namespace Go.Proofs.Ytbgapkhcaideiaa
open Go Go.RowKit Go.ChangeShapes Go.WideShapes Go.ChangeAt

theorem law_own : ownKnob Try.prog.godebug = none := by kernel_rfl
theorem law_laid : laidOutB Try.prog = true := by kernel_rfl

/-- all arguments read behind the call as they did -/
theorem law_args {H : Type} {enc : TypeId × Value → H} {P : Program} {W W' : World} (hl : laidOutB P = true) (hb : Below W.heap.size W W') :
    ∀ (ts : List TypeId) (vs : List Value) (ds : List (DataW H)) (ps : List MemPlace), (ts.all fun t => P.readableRec t && decide (t < P.types.size)) = true →
      DataW.TrodAll enc P W 0 (fun _ => true) true ts vs ds ps → (∀ x ∈ ps, x.block < W.heap.size) → DataW.TrodAll enc P W' 0 (fun b => decide (b < W.heap.size)) true ts vs ds ps := by
  intro ts
  induction ts with
  | nil =>
    intro vs ds ps _ h _
    cases vs with
    | nil =>
      cases ds with
      | nil => exact h
      | cons d ds => exact h.elim
    | cons v vs => exact (by cases ds <;> exact h.elim)
  | cons t ts ih =>
    intro vs ds ps ht h hp
    obtain ⟨v, vs', d, ds', p, q, rfl, rfl, rfl, h0, hr⟩ := trodAll_cons h
    simp only [List.all_cons, Bool.and_eq_true, decide_eq_true_eq] at ht
    exact trodAll_cons_mk (Below.trod hl ht.1.1 ht.1.2 h0 hb (fun x hx => hp x (List.mem_append_left _ hx))) (ih vs' ds' q (by simpa using ht.2) hr (fun x hx => hp x (List.mem_append_right _ hx)))

theorem open_pair {P : Program} {H : Type} {enc : TypeId × Value → H} {W : World} {base : Nat} {t e : TypeId} {k : IntKind} {v : Value} {d : DataW H} {p : List MemPlace}
    (ht : P.underlying t = some (.array 2 e)) (he : P.underlying e = some (.int k)) (hce : P.cellsOf e = 1) (hct : P.cellsOf t = 2)
    (hv : Value.okWide P W .any base t v) (h : DataW.Trod enc P W 0 (fun _ => true) true t v d p) :
    ∃ m n, v = .agg #[.int k m, .int k n] ∧ (Lit.int k m).wf = true ∧ (Lit.int k n).wf = true := by
  obtain ⟨cs, rfl, hsz, _⟩ : ∃ cs, v = .agg cs ∧ cs.size = P.cellsOf t ∧ Row.okWide P W .any base t cs := by
    simpa [Value.okWide, ht] using hv
  rw [hct] at hsz
  obtain ⟨l⟩ := cs
  obtain ⟨fuel, hf⟩ := h
  obtain ⟨xs, m, _, hx, hlen, hl, hel⟩ := DataW.trod_array ht hf
  have two : ∃ c0 c1, l = [c0, c1] := by
    match l, hsz with
    | [a, b], _ => exact ⟨a, b, rfl⟩
  obtain ⟨c0, c1, rfl⟩ := two
  have y0 := hel 0 (by omega)
  have y1 := hel 1 (by omega)
  rw [hce] at y0 y1
  have e0 : ∃ y, DataW.trod enc P W 0 (fun _ => true) true m e [c0] = some y := ⟨xs[0]'(by omega), by simpa [Value.cells, List.getElem?_eq_getElem (show 0 < xs.length by omega)] using y0⟩
  have e1 : ∃ y, DataW.trod enc P W 0 (fun _ => true) true m e [c1] = some y := ⟨xs[1]'(by omega), by simpa [Value.cells, List.getElem?_eq_getElem (show 1 < xs.length by omega)] using y1⟩
  obtain ⟨z0, hz0⟩ := e0
  obtain ⟨z1, hz1⟩ := e1
  obtain ⟨a, ea, _, wa⟩ := DataW.trod_int he hz0
  obtain ⟨b, eb, _, wb⟩ := DataW.trod_int he hz1
  simp only [List.cons.injEq, and_true] at ea eb
  subst ea; subst eb
  exact ⟨a, b, rfl, wa, wb⟩

end Go.Proofs.Ytbgapkhcaideiaa
