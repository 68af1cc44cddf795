/- The document's Minus of values, by its contract. Conditions: numbers within their kinds. -/
import Derived.Test.YtaahaehgdamkdaaCR6
import Derived.BigQuiet
import Derived.Deep.RegionWith
namespace Go.Proofs.Ytaahaehgdamkdaa
open Go Go.RowKit

theorem neg_is_clean {u : Nat} (hu : u < 18446744073709551616) : cleanZ (negZ u) = negZ u := by
  by_cases h : kindZ u = 5
  · rw [neg_nan h]; decide
  · unfold cleanZ
    rw [if_neg (by rw [neg_kind hu]; exact h)]

theorem blocks3' (w : World) (o1 o2 o3 : Obj) : (((w.alloc o1).alloc o2).alloc o3).heap[w.heap.size]? = some o1 ∧ (((w.alloc o1).alloc o2).alloc o3).heap[w.heap.size + 1]? = some o2 ∧ (((w.alloc o1).alloc o2).alloc o3).heap[w.heap.size + 1 + 1]? = some o3 ∧ Ext w (((w.alloc o1).alloc o2).alloc o3) := by
  have e1 : (w.alloc o1).heap.size = w.heap.size + 1 := by simp
  have e2 : ((w.alloc o1).alloc o2).heap.size = w.heap.size + 1 + 1 := by simp
  have h1 := ((Ext.alloc (w.alloc o1) o2).then_alloc o3).block (heap_alloc_new w o1)
  have h2 := (Ext.alloc ((w.alloc o1).alloc o2) o3).block (heap_alloc_new (w.alloc o1) o2)
  have h3 := heap_alloc_new ((w.alloc o1).alloc o2) o3
  rw [e1] at h2
  rw [e2] at h3
  exact ⟨h1, h2, h3, ((Ext.alloc w o1).then_alloc o2).then_alloc o3⟩

end Go.Proofs.Ytaahaehgdamkdaa
