/- telltalelaw04.Small, by its contract; cells of two. Conditions: the reach of a string. -/
import Derived.Test.YtbgapkhcaideiaaVR1
import Derived.Test.YtbgapkhcaideiaaBase
namespace Go.Proofs.Ytbgapkhcaideiaa
open Go Go.RowKit

theorem boxH2 {w1 : World} {g : Nat} {a b : Value} {t : TypeId} (h : w1.heap[g]? = some (.cells #[a, b] t (0, 0))) :
    (w1.cell? ⟨g, 0, none⟩ = some a ∧ w1.cell? ⟨g, 1, none⟩ = some b) ∧ (w1.frozen? ⟨g, 0, none⟩ = false ∧ w1.frozen? ⟨g, 1, none⟩ = false) ∧ g < w1.heap.size :=
  ⟨⟨cell_of_row _ _ 0 _ _ _ h, cell_of_row _ _ 1 _ _ _ h⟩, ⟨frozen_of_row _ _ 0 _ _ h, frozen_of_row _ _ 1 _ _ h⟩, (Array.getElem?_eq_some_iff.1 h).1⟩

set_option maxHeartbeats 1000000 in
theorem hsmall_any (k : Nat) (n : Int) (b : Nat) (t : ByteArray) (w : World) (ht : t.size ≤ 9223372036854775807) : Calls Try.prog 13 #[.agg #[.int .u8 (k : Int), .int .i64 n, .int .u64 (b : Int), .string t]] w (Says w (.int .i64 (max 0 ((t.size : Int) - 100)))) := by
  rcases Nat.lt_or_ge 100 t.size with h | h
  · rw [show max 0 ((t.size : Int) - 100) = (t.size : Int) - 100 by omega]
    go_enter Try.func13, Try.ntmps13
    go_wp2
    all_goals first | (exfalso; omega) | (go_ret; exact Says.mk_int (by omega) (Ext.alloc _ _))
  · rw [show max 0 ((t.size : Int) - 100) = 0 by omega]
    go_enter Try.func13, Try.ntmps13
    go_wp2
    all_goals first | (exfalso; omega) | (go_ret; exact Says.mk_int (by omega) (Ext.alloc _ _))
end Go.Proofs.Ytbgapkhcaideiaa
