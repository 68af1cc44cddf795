/- The document's Less, Check, Value of events, by their contracts. Conditions: numbers within their kinds. -/
import Derived.Test.YtnldgmpfinlikaaGSMem2
import Derived.Test.YtnldgmpfinlikaaGSR1
import Derived.BigQuiet
namespace Go.Proofs.Ytnldgmpfinlikaa
open Go Go.RowKit

theorem box5 {w1 : World} {g : Nat} {a b c d e : Value} {t : TypeId} (h : w1.heap[g]? = some (.cells #[a, b, c, d, e] t (0, 0))) :
    (w1.cell? ⟨g, 0, none⟩ = some a ∧ w1.cell? ⟨g, 1, none⟩ = some b ∧ w1.cell? ⟨g, 2, none⟩ = some c ∧ w1.cell? ⟨g, 3, none⟩ = some d ∧ w1.cell? ⟨g, 4, none⟩ = some e) ∧
    (w1.frozen? ⟨g, 0, none⟩ = false ∧ w1.frozen? ⟨g, 1, none⟩ = false ∧ w1.frozen? ⟨g, 2, none⟩ = false ∧ w1.frozen? ⟨g, 3, none⟩ = false ∧ w1.frozen? ⟨g, 4, none⟩ = false) ∧ g < w1.heap.size :=
  ⟨⟨cell_of_row _ _ 0 _ _ _ h, cell_of_row _ _ 1 _ _ _ h, cell_of_row _ _ 2 _ _ _ h, cell_of_row _ _ 3 _ _ _ h, cell_of_row _ _ 4 _ _ _ h⟩,
   ⟨frozen_of_row _ _ 0 _ _ h, frozen_of_row _ _ 1 _ _ h, frozen_of_row _ _ 2 _ _ h, frozen_of_row _ _ 3 _ _ h, frozen_of_row _ _ 4 _ _ h⟩, (Array.getElem?_eq_some_iff.1 h).1⟩
/-- an event's value -/
def evv (e : EZ) (r : Value) : Value := .agg #[.int .i64 e.m, .int .i64 e.o, .int .i64 e.q, .string e.n, r]
theorem order3 (a b : Int) : (a ≠ b ∧ (a != b) = true ∧ (a == b) = false) ∨ (a = b ∧ (a != b) = false ∧ (a == b) = true) := by
  by_cases h : a = b
  · exact .inr ⟨h, bne_eq_false_iff_eq.2 h, beq_iff_eq.2 h⟩
  · exact .inl ⟨h, bne_iff_ne.2 h, beq_eq_false_iff_ne.2 h⟩

set_option maxRecDepth 100000 in
set_option maxHeartbeats 2000000 in
theorem rless7_any (a b : EZ) (ra rb : Value) (w : World) : Calls Try.prog 16 #[evv a ra, evv b rb] w (Says w (.bool (lessE a b))) := by
  obtain ⟨am, ao, aq, an, av⟩ := a
  obtain ⟨bm, bo, bq, bn, bv⟩ := b
  have hl : lessE ⟨am, ao, aq, an, av⟩ ⟨bm, bo, bq, bn, bv⟩ = if am ≠ bm then decide (am < bm) else if ao ≠ bo then decide (ao < bo) else decide (aq < bq) := rfl
  generalize lessE ⟨am, ao, aq, an, av⟩ ⟨bm, bo, bq, bn, bv⟩ = R at *
  show Calls _ _ #[.agg #[.int .i64 am, .int .i64 ao, .int .i64 aq, .string an, ra], .agg #[.int .i64 bm, .int .i64 bo, .int .i64 bq, .string bn, rb]] _ _
  have HX := hid ((Ext.alloc w (Obj.cells #[.int .i64 am, .int .i64 ao, .int .i64 aq, .string an, ra] 43 (0, 0))).then_alloc (Obj.cells #[.int .i64 bm, .int .i64 bo, .int .i64 bq, .string bn, rb] 43 (0, 0)))
  have HB2 := hid (heap_alloc2_new w (Obj.cells #[.int .i64 am, .int .i64 ao, .int .i64 aq, .string an, ra] 43 (0, 0)) (Obj.cells #[.int .i64 bm, .int .i64 bo, .int .i64 bq, .string bn, rb] 43 (0, 0)))
  have HB1 := hid (heap_alloc2_old w (Obj.cells #[.int .i64 am, .int .i64 ao, .int .i64 aq, .string an, ra] 43 (0, 0)) (Obj.cells #[.int .i64 bm, .int .i64 bo, .int .i64 bq, .string bn, rb] 43 (0, 0)))
  obtain ⟨⟨a0, a1, a2, a3, a4⟩, _, _⟩ := box5 HB1.out
  obtain ⟨⟨b0, b1, b2, b3, b4⟩, _, _⟩ := box5 HB2.out
  have HL := hid hl
  clear hl
  rcases order3 am bm with ⟨h1, h2, _⟩ | ⟨h1, h2, _⟩
  · have HR := hid (HL.out.trans (if_pos h1))
    clear h1
    go_enter Try.func16, Try.ntmps16
    go_wp2_with fail
    go_ret
    exact ⟨by rw [HR.out]; rfl, HX.out⟩
  · have HR1 := hid (HL.out.trans (if_neg (fun h => h h1)))
    clear h1
    rcases order3 ao bo with ⟨h1, h3, _⟩ | ⟨h1, h3, _⟩
    · have HR := hid (HR1.out.trans (if_pos h1))
      clear h1
      go_enter Try.func16, Try.ntmps16
      go_wp2_with fail
      go_ret
      exact ⟨by rw [HR.out]; rfl, HX.out⟩
    · have HR := hid (HR1.out.trans (if_neg (fun h => h h1)))
      clear h1
      go_enter Try.func16, Try.ntmps16
      go_wp2_with fail
      go_ret
      exact ⟨by rw [HR.out]; rfl, HX.out⟩

end Go.Proofs.Ytnldgmpfinlikaa
