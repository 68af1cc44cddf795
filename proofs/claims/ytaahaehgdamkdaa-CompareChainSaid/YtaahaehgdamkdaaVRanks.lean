/- ValueRanks: the walk. -/
import Derived.Test.YtaahaehgdamkdaaVSmall
import Derived.Deep.CutRange
import Derived.Deep.QuietTactic
namespace Go.Proofs.Ytaahaehgdamkdaa
open Go Go.RowKit


/-- three values in a row -/
def arr3 (k : Nat) (n : Int) (b : Nat) (t : ByteArray) (l : Nat) (m : Int) (c : Nat) (u : ByteArray) (j : Nat) (i : Int) (d : Nat) (v : ByteArray) : Array Value :=
  #[.int .u8 (k : Int), .int .i64 n, .int .u64 (b : Int), .string t, .int .u8 (l : Int), .int .i64 m, .int .u64 (c : Int), .string u, .int .u8 (j : Int), .int .i64 i, .int .u64 (d : Int), .string v]
theorem box12 {w1 : World} {g : Nat} {a b c d e f h i j k l m : Value} {t : TypeId} (hh : w1.heap[g]? = some (.cells #[a, b, c, d, e, f, h, i, j, k, l, m] t (0, 0))) :
    (w1.cell? ⟨g, 0, none⟩ = some a ∧ w1.cell? ⟨g, 1, none⟩ = some b ∧ w1.cell? ⟨g, 2, none⟩ = some c ∧ w1.cell? ⟨g, 3, none⟩ = some d) ∧ (w1.cell? ⟨g, 4, none⟩ = some e ∧ w1.cell? ⟨g, 5, none⟩ = some f ∧ w1.cell? ⟨g, 6, none⟩ = some h ∧ w1.cell? ⟨g, 7, none⟩ = some i) ∧ (w1.cell? ⟨g, 8, none⟩ = some j ∧ w1.cell? ⟨g, 9, none⟩ = some k ∧ w1.cell? ⟨g, 10, none⟩ = some l ∧ w1.cell? ⟨g, 11, none⟩ = some m) :=
  ⟨⟨cell_of_row _ _ 0 _ _ _ hh, cell_of_row _ _ 1 _ _ _ hh, cell_of_row _ _ 2 _ _ _ hh, cell_of_row _ _ 3 _ _ _ hh⟩, ⟨cell_of_row _ _ 4 _ _ _ hh, cell_of_row _ _ 5 _ _ _ hh, cell_of_row _ _ 6 _ _ _ hh, cell_of_row _ _ 7 _ _ _ hh⟩, ⟨cell_of_row _ _ 8 _ _ _ hh, cell_of_row _ _ 9 _ _ _ hh, cell_of_row _ _ 10 _ _ _ hh, cell_of_row _ _ 11 _ _ _ hh⟩⟩

theorem blocks3 (w : World) (o1 o2 o3 : Obj) : ((((w.alloc o1).alloc o2).alloc o3).drew).heap[w.heap.size]? = some o1 ∧ ((((w.alloc o1).alloc o2).alloc o3).drew).heap[w.heap.size + 1]? = some o2 ∧ ((((w.alloc o1).alloc o2).alloc o3).drew).heap[w.heap.size + 1 + 1]? = some o3 ∧ Ext w (((w.alloc o1).alloc o2).alloc o3).drew := by
  have e1 : (w.alloc o1).heap.size = w.heap.size + 1 := by simp
  have e2 : ((w.alloc o1).alloc o2).heap.size = w.heap.size + 1 + 1 := by simp
  have h1 := (((Ext.alloc (w.alloc o1) o2).then_alloc o3).then_drew).block (heap_alloc_new w o1)
  have h2 := ((Ext.alloc ((w.alloc o1).alloc o2) o3).then_drew).block (heap_alloc_new (w.alloc o1) o2)
  have h3 := (Ext.drew (((w.alloc o1).alloc o2).alloc o3)).block (heap_alloc_new ((w.alloc o1).alloc o2) o3)
  rw [e1] at h2
  rw [e2] at h3
  exact ⟨h1, h2, h3, (((Ext.alloc w o1).then_alloc o2).then_alloc o3).then_drew⟩

end Go.Proofs.Ytaahaehgdamkdaa
